/- What impl.hsDigits answers: the eleven digits, in an array; old memory stays. Conditions: texts of at most 2 to the 40 bytes; the table. -/
import Derived.Test.YtppkjpfofgfiaaaDoorHi1
import Derived.Test.YtppkjpfofgfiaaaDoorHs3
namespace Go.Proofs.YtppkjpfofgfiaaaDoor
open Go.RowKit
open Num
set_option linter.unusedVariables false
theorem Au.below {w w' : World} {g : Nat} {t : TypeId} {l : List Value} (h : Au w g t l) (hb : Below w.heap.size w w') : Au w' g t l := (hb.block g h.lt).trans h
def partd (l : List Nat) : List Value := l.map iv ++ List.replicate (11 - l.length) (iv 0)
theorem zeroD : (∀ w, (zeroValue 41).run Tryd.prog w = .ok (.agg (List.replicate 11 (iv 0)).toArray) w) ∧ (Tryd.prog.info? 41).map (·.size) = some 11 := zero_of_info (by kernel_rfl)
theorem partd_set (l : List Nat) (x : Nat) (h : l.length < 11) : (partd l).set l.length (iv x) = partd (l ++ [x]) := by
  unfold partd
  rw [show 11 - l.length = (11 - (l ++ [x]).length) + 1 from by simp; omega, List.replicate_succ]
  simp
theorem partd_behind (l : List Nat) (h : l.length < 11) : (partd l)[l.length]? = some (iv 0) := by
  unfold partd
  rw [List.getElem?_append_right (by simp), List.length_map, Nat.sub_self, List.getElem?_replicate, if_pos (by omega)]
theorem partd_nil : partd [] = List.replicate 11 (iv 0) := rfl
theorem partd_full (l : List Nat) (h : l.length = 11) : partd l = l.map iv := by
  unfold partd; rw [h]; simp
theorem length_dfirst (m : ByteArray) (k : Nat) : (dfirst m k).length = k := by unfold dfirst; simp
theorem partd_next (m : ByteArray) (k : Nat) (hk : k < 8) : (partd (dfirst m k)).set k (iv (pairOf m k)) = partd (dfirst m (k + 1)) := by
  have := partd_set (dfirst m k) (pairOf m k) (by rw [length_dfirst]; omega)
  rw [length_dfirst] at this
  rw [this, dfirst_succ]
theorem partd_tail (m : ByteArray) (j : Nat) (h8 : 8 ≤ j) (hj : j < 11) : (partd (dfirst m 8))[j]? = some (iv 0) := by
  unfold partd
  rw [List.getElem?_append_right (by rw [List.length_map, length_dfirst]; exact h8), List.length_map, length_dfirst, List.getElem?_replicate, if_pos (by omega)]
theorem partd_last (m : ByteArray) (a b c : Int) (ha : a = (leftB m 8 / 16 : Nat)) (hb : b = (leftB m 8 / 4 % 4 : Nat)) (hc : c = (leftB m 8 % 4 : Nat)) :
    (((partd (dfirst m 8)).set 8 (.int .i64 a)).set 9 (.int .i64 b)).set 10 (.int .i64 c) = (digs m).map iv := by
  subst ha hb hc
  rfl
set_option maxHeartbeats 1600000 in
set_option maxRecDepth 100000 in
theorem impl_digits (m : ByteArray) (w : World) (hm : m.size ≤ 1099511627776) (hT : Tab w) :
    Calls Tryd.prog 27 #[.string m] w fun e w' => e = .returned (.agg ((digs m).map iv).toArray) ∧ Below w.heap.size w w' := by
  obtain ⟨Z, HZ⟩ : ∃ Z : List Value, Hid (Z = List.replicate 11 (iv 0)) := ⟨_, rfl⟩
  have hz := zeroD.1
  rw [← HZ.out] at hz
  obtain ⟨S, hS⟩ : ∃ S : ByteArray, S = ⟨(shal m.data.toList).toArray⟩ := ⟨_, rfl⟩
  have h32 : S.size = 32 := by rw [hS]; show (shal m.data.toList).toArray.size = 32; rw [List.size_toArray, length_shal]
  have hS0 : 0 < S.size := by omega
  have hS1 : 1 < S.size := by omega
  have HB0 : Hid ((shal m.data.toList).getD 0 0 = S[0]) := by show _ = _; subst hS; simp [ByteArray.getElem_eq_getElem_data, length_shal]
  have HB1 : Hid ((shal m.data.toList).getD 1 0 = S[1]) := by show _ = _; subst hS; simp [ByteArray.getElem_eq_getElem_data, length_shal]
  have HS : Hid (S = ⟨(shal m.data.toList).toArray⟩) := hS
  have hS0' : (0 : Int) < (S.size : Int) := by omega
  have hS1' : (1 : Int) < (S.size : Int) := by omega
  have HT : Hid (Tab w) := hT
  clear hS hT
  obtain ⟨wa, hwa⟩ : ∃ wa, wa = (w.alloc (.cells Z.toArray 41)).alloc (.cells Z.toArray 41) := ⟨_, rfl⟩
  have HBA : Hid (Below w.heap.size w wa) := by
    rw [hwa]; exact ((Below.refl _ _).alloc (Nat.le_refl _) _).alloc (by simp) _
  have HA0 : Hid (Au wa w.heap.size 41 Z) := by rw [hwa]; exact (Au.new w 41 Z).alloc _
  have HA1 : Hid (Au wa (w.heap.size + 1) 41 Z) := by
    rw [hwa]
    have := Au.new (w.alloc (.cells Z.toArray 41)) 41 Z
    rw [World.size_alloc] at this
    exact this
  go_enter Tryd.func27, Tryd.ntmps27
  go_wp2_with fail
  rw [← hwa]
  refine (impl_sha m wa hm (HT.out.below HBA.out HT.out.pos)).mono ?_
  rintro e w1 ⟨rfl, hb1⟩
  rw [← HS.out]
  have HR0 : Hid (Au w1 (w.heap.size + 1) 41 (partd (dfirst m 0))) := by
    rw [show dfirst m 0 = [] from rfl, partd_nil, ← HZ.out]; exact HA1.out.below hb1
  have HQ0 : Hid (Au w1 w.heap.size 41 Z) := HA0.out.below hb1
  have hb10 : Below w.heap.size w w1 := HBA.out.trans (hb1.mono HBA.out.size)
  clear hwa hb1 HA0 HA1 HBA
  go_wp2
  go_loopw [5, 9] (fun sv kv wr => ∃ (k : Nat) (left : Int), k ≤ 8 ∧ kv = .int .i64 k ∧ sv = .int .i64 left ∧ 0 ≤ left ∧ left ≤ 24 ∧ Hid (left = (leftB m k : Nat)) ∧ Hid (Au wr (w.heap.size + 1) 41 (partd (dfirst m k))) ∧ Hid (Au wr w.heap.size 41 Z) ∧ Below w.heap.size w wr) (fun _ kv _ => 8 - (intOf kv).toNat)
  case atStart => exact ⟨0, 24, by omega, rfl, rfl, by omega, by omega, rfl, HR0, HQ0, hb10⟩
  case round =>
    clear HR0 HQ0 hb10
    obtain ⟨k, left, hk, rfl, rfl, hl0, hl1, HL, HR, HQ, hb⟩ := hrel
    by_cases hlt : k < 8
    · obtain ⟨x, hx⟩ : ∃ x : Int, x = (pairOf m k : Nat) := ⟨_, rfl⟩
      have HX : Hid (x = (pairOf m k : Nat)) := hx
      have hx0 : 0 ≤ x := by omega
      have hx3 : x ≤ 3 := by have := pairOf_le m k; omega
      clear hx
      have hx' : ∀ (c : UInt8) (n : Nat), (shal m.data.toList).getD (k / 4) 0 = c → 2 ^ (6 - 2 * (k % 4)) = n → (c.toNat : Int) / (n : Int) % 4 = x := fun c n h1 h2 => by
        rw [HX.out, ← h2, pairOf_at m k c h1]; omega
      have h8 : k = 0 ∨ k = 1 ∨ k = 2 ∨ k = 3 ∨ k = 4 ∨ k = 5 ∨ k = 6 ∨ k = 7 := by omega
      obtain ⟨y, hy⟩ : ∃ y : Int, y = left - x := ⟨_, rfl⟩
      have hy' : left - x = y := hy.symm
      have HY : Hid (y = (leftB m (k + 1) : Nat)) := by
        show _ = _
        have h1 := HL.out
        have h2 := HX.out
        have h3 := leftB_ge m k (by omega)
        have h4 := pairOf_le m k
        show y = ((leftB m k - pairOf m k : Nat) : Int)
        omega
      have hy0 : 0 ≤ y := by have := HY.out; omega
      have hy1 : y ≤ 24 := by omega
      have hyw : wrap64 y = y := by unfold wrap64; omega
      have hc : wr.cell? ⟨w.heap.size + 1, k, none⟩ = some (iv 0) := by
        have := partd_behind (dfirst m k) (by rw [length_dfirst]; omega)
        rw [length_dfirst] at this
        exact HR.out.cell this
      have hf : wr.frozen? ⟨w.heap.size + 1, k, none⟩ = false := HR.out.frozen k
      have HR1 : Hid (Au (wr.setCell ⟨w.heap.size + 1, k, none⟩ (.int .i64 x)) (w.heap.size + 1) 41 (partd (dfirst m (k + 1)))) := by
        have := HR.out.set k (iv (pairOf m k))
        rw [partd_next m k hlt] at this
        rw [HX.out]; exact this
      have HQ1 : Hid (Au (wr.setCell ⟨w.heap.size + 1, k, none⟩ (.int .i64 x)) w.heap.size 41 Z) := HQ.out.setOther _ _ (by simp)
      have hb1 : Below w.heap.size w (wr.setCell ⟨w.heap.size + 1, k, none⟩ (.int .i64 x)) := hb.setCell (p := ⟨w.heap.size + 1, k, none⟩) (by simp) _
      clear hy
      rcases h8 with rfl | rfl | rfl | rfl | rfl | rfl | rfl | rfl
      · have hv0 : (S[0].toNat : Int) / 64 % 4 = x := hx' S[0] 64 HB0.out rfl
        have hvl := S[0].toNat_lt
        have hv1 : wrap64 ((S[0].toNat : Int) / 64) = ((S[0].toNat : Int) / 64) := by unfold wrap64; omega
        have hv2 : ((S[0].toNat : Int) / 64).tmod 4 = x := by rw [Int.tmod_eq_emod_of_nonneg (by omega)]; exact hv0
        clear hx' hv0 hvl
        go_wp2
        go_roundw
        case rel =>
          have R : ∃ (k : Nat) (left : Int), k ≤ 8 ∧ Value.int .i64 1 = .int .i64 k ∧ Value.int .i64 y = .int .i64 left ∧ 0 ≤ left ∧ left ≤ 24 ∧ Hid (left = (leftB m k : Nat)) ∧ Hid (Au (wr.setCell ⟨w.heap.size + 1, 0, none⟩ (.int .i64 x)) (w.heap.size + 1) 41 (partd (dfirst m k))) ∧ Hid (Au (wr.setCell ⟨w.heap.size + 1, 0, none⟩ (.int .i64 x)) w.heap.size 41 Z) ∧ Below w.heap.size w (wr.setCell ⟨w.heap.size + 1, 0, none⟩ (.int .i64 x)) :=
            ⟨1, y, by omega, rfl, rfl, hy0, hy1, HY, HR1, HQ1, hb1⟩
          first | exact R | ((repeat apply Exists.intro); exact ⟨R, rfl⟩)
        case measure => simp [intOf]
      · have hv0 : (S[0].toNat : Int) / 16 % 4 = x := hx' S[0] 16 HB0.out rfl
        have hvl := S[0].toNat_lt
        have hv1 : wrap64 ((S[0].toNat : Int) / 16) = ((S[0].toNat : Int) / 16) := by unfold wrap64; omega
        have hv2 : ((S[0].toNat : Int) / 16).tmod 4 = x := by rw [Int.tmod_eq_emod_of_nonneg (by omega)]; exact hv0
        clear hx' hv0 hvl
        go_wp2
        go_roundw
        case rel =>
          have R : ∃ (k : Nat) (left : Int), k ≤ 8 ∧ Value.int .i64 2 = .int .i64 k ∧ Value.int .i64 y = .int .i64 left ∧ 0 ≤ left ∧ left ≤ 24 ∧ Hid (left = (leftB m k : Nat)) ∧ Hid (Au (wr.setCell ⟨w.heap.size + 1, 1, none⟩ (.int .i64 x)) (w.heap.size + 1) 41 (partd (dfirst m k))) ∧ Hid (Au (wr.setCell ⟨w.heap.size + 1, 1, none⟩ (.int .i64 x)) w.heap.size 41 Z) ∧ Below w.heap.size w (wr.setCell ⟨w.heap.size + 1, 1, none⟩ (.int .i64 x)) :=
            ⟨2, y, by omega, rfl, rfl, hy0, hy1, HY, HR1, HQ1, hb1⟩
          first | exact R | ((repeat apply Exists.intro); exact ⟨R, rfl⟩)
        case measure => simp [intOf]
      · have hv0 : (S[0].toNat : Int) / 4 % 4 = x := hx' S[0] 4 HB0.out rfl
        have hvl := S[0].toNat_lt
        have hv1 : wrap64 ((S[0].toNat : Int) / 4) = ((S[0].toNat : Int) / 4) := by unfold wrap64; omega
        have hv2 : ((S[0].toNat : Int) / 4).tmod 4 = x := by rw [Int.tmod_eq_emod_of_nonneg (by omega)]; exact hv0
        clear hx' hv0 hvl
        go_wp2
        go_roundw
        case rel =>
          have R : ∃ (k : Nat) (left : Int), k ≤ 8 ∧ Value.int .i64 3 = .int .i64 k ∧ Value.int .i64 y = .int .i64 left ∧ 0 ≤ left ∧ left ≤ 24 ∧ Hid (left = (leftB m k : Nat)) ∧ Hid (Au (wr.setCell ⟨w.heap.size + 1, 2, none⟩ (.int .i64 x)) (w.heap.size + 1) 41 (partd (dfirst m k))) ∧ Hid (Au (wr.setCell ⟨w.heap.size + 1, 2, none⟩ (.int .i64 x)) w.heap.size 41 Z) ∧ Below w.heap.size w (wr.setCell ⟨w.heap.size + 1, 2, none⟩ (.int .i64 x)) :=
            ⟨3, y, by omega, rfl, rfl, hy0, hy1, HY, HR1, HQ1, hb1⟩
          first | exact R | ((repeat apply Exists.intro); exact ⟨R, rfl⟩)
        case measure => simp [intOf]
      · have hv0 : (S[0].toNat : Int) % 4 = x := by have := hx' S[0] 1 HB0.out rfl; simpa using this
        have hvl := S[0].toNat_lt
        have hv1 : wrap64 (S[0].toNat : Int) = (S[0].toNat : Int) := by unfold wrap64; omega
        have hv2 : (S[0].toNat : Int).tmod 4 = x := by rw [Int.tmod_eq_emod_of_nonneg (by omega)]; exact hv0
        clear hx' hv0 hvl
        go_wp2
        go_roundw
        case rel =>
          have R : ∃ (k : Nat) (left : Int), k ≤ 8 ∧ Value.int .i64 4 = .int .i64 k ∧ Value.int .i64 y = .int .i64 left ∧ 0 ≤ left ∧ left ≤ 24 ∧ Hid (left = (leftB m k : Nat)) ∧ Hid (Au (wr.setCell ⟨w.heap.size + 1, 3, none⟩ (.int .i64 x)) (w.heap.size + 1) 41 (partd (dfirst m k))) ∧ Hid (Au (wr.setCell ⟨w.heap.size + 1, 3, none⟩ (.int .i64 x)) w.heap.size 41 Z) ∧ Below w.heap.size w (wr.setCell ⟨w.heap.size + 1, 3, none⟩ (.int .i64 x)) :=
            ⟨4, y, by omega, rfl, rfl, hy0, hy1, HY, HR1, HQ1, hb1⟩
          first | exact R | ((repeat apply Exists.intro); exact ⟨R, rfl⟩)
        case measure => simp [intOf]
      · have hv0 : (S[1].toNat : Int) / 64 % 4 = x := hx' S[1] 64 HB1.out rfl
        have hvl := S[1].toNat_lt
        have hv1 : wrap64 ((S[1].toNat : Int) / 64) = ((S[1].toNat : Int) / 64) := by unfold wrap64; omega
        have hv2 : ((S[1].toNat : Int) / 64).tmod 4 = x := by rw [Int.tmod_eq_emod_of_nonneg (by omega)]; exact hv0
        clear hx' hv0 hvl
        go_wp2
        go_roundw
        case rel =>
          have R : ∃ (k : Nat) (left : Int), k ≤ 8 ∧ Value.int .i64 5 = .int .i64 k ∧ Value.int .i64 y = .int .i64 left ∧ 0 ≤ left ∧ left ≤ 24 ∧ Hid (left = (leftB m k : Nat)) ∧ Hid (Au (wr.setCell ⟨w.heap.size + 1, 4, none⟩ (.int .i64 x)) (w.heap.size + 1) 41 (partd (dfirst m k))) ∧ Hid (Au (wr.setCell ⟨w.heap.size + 1, 4, none⟩ (.int .i64 x)) w.heap.size 41 Z) ∧ Below w.heap.size w (wr.setCell ⟨w.heap.size + 1, 4, none⟩ (.int .i64 x)) :=
            ⟨5, y, by omega, rfl, rfl, hy0, hy1, HY, HR1, HQ1, hb1⟩
          first | exact R | ((repeat apply Exists.intro); exact ⟨R, rfl⟩)
        case measure => simp [intOf]
      · have hv0 : (S[1].toNat : Int) / 16 % 4 = x := hx' S[1] 16 HB1.out rfl
        have hvl := S[1].toNat_lt
        have hv1 : wrap64 ((S[1].toNat : Int) / 16) = ((S[1].toNat : Int) / 16) := by unfold wrap64; omega
        have hv2 : ((S[1].toNat : Int) / 16).tmod 4 = x := by rw [Int.tmod_eq_emod_of_nonneg (by omega)]; exact hv0
        clear hx' hv0 hvl
        go_wp2
        go_roundw
        case rel =>
          have R : ∃ (k : Nat) (left : Int), k ≤ 8 ∧ Value.int .i64 6 = .int .i64 k ∧ Value.int .i64 y = .int .i64 left ∧ 0 ≤ left ∧ left ≤ 24 ∧ Hid (left = (leftB m k : Nat)) ∧ Hid (Au (wr.setCell ⟨w.heap.size + 1, 5, none⟩ (.int .i64 x)) (w.heap.size + 1) 41 (partd (dfirst m k))) ∧ Hid (Au (wr.setCell ⟨w.heap.size + 1, 5, none⟩ (.int .i64 x)) w.heap.size 41 Z) ∧ Below w.heap.size w (wr.setCell ⟨w.heap.size + 1, 5, none⟩ (.int .i64 x)) :=
            ⟨6, y, by omega, rfl, rfl, hy0, hy1, HY, HR1, HQ1, hb1⟩
          first | exact R | ((repeat apply Exists.intro); exact ⟨R, rfl⟩)
        case measure => simp [intOf]
      · have hv0 : (S[1].toNat : Int) / 4 % 4 = x := hx' S[1] 4 HB1.out rfl
        have hvl := S[1].toNat_lt
        have hv1 : wrap64 ((S[1].toNat : Int) / 4) = ((S[1].toNat : Int) / 4) := by unfold wrap64; omega
        have hv2 : ((S[1].toNat : Int) / 4).tmod 4 = x := by rw [Int.tmod_eq_emod_of_nonneg (by omega)]; exact hv0
        clear hx' hv0 hvl
        go_wp2
        go_roundw
        case rel =>
          have R : ∃ (k : Nat) (left : Int), k ≤ 8 ∧ Value.int .i64 7 = .int .i64 k ∧ Value.int .i64 y = .int .i64 left ∧ 0 ≤ left ∧ left ≤ 24 ∧ Hid (left = (leftB m k : Nat)) ∧ Hid (Au (wr.setCell ⟨w.heap.size + 1, 6, none⟩ (.int .i64 x)) (w.heap.size + 1) 41 (partd (dfirst m k))) ∧ Hid (Au (wr.setCell ⟨w.heap.size + 1, 6, none⟩ (.int .i64 x)) w.heap.size 41 Z) ∧ Below w.heap.size w (wr.setCell ⟨w.heap.size + 1, 6, none⟩ (.int .i64 x)) :=
            ⟨7, y, by omega, rfl, rfl, hy0, hy1, HY, HR1, HQ1, hb1⟩
          first | exact R | ((repeat apply Exists.intro); exact ⟨R, rfl⟩)
        case measure => simp [intOf]
      · have hv0 : (S[1].toNat : Int) % 4 = x := by have := hx' S[1] 1 HB1.out rfl; simpa using this
        have hvl := S[1].toNat_lt
        have hv1 : wrap64 (S[1].toNat : Int) = (S[1].toNat : Int) := by unfold wrap64; omega
        have hv2 : (S[1].toNat : Int).tmod 4 = x := by rw [Int.tmod_eq_emod_of_nonneg (by omega)]; exact hv0
        clear hx' hv0 hvl
        go_wp2
        go_roundw
        case rel =>
          have R : ∃ (k : Nat) (left : Int), k ≤ 8 ∧ Value.int .i64 8 = .int .i64 k ∧ Value.int .i64 y = .int .i64 left ∧ 0 ≤ left ∧ left ≤ 24 ∧ Hid (left = (leftB m k : Nat)) ∧ Hid (Au (wr.setCell ⟨w.heap.size + 1, 7, none⟩ (.int .i64 x)) (w.heap.size + 1) 41 (partd (dfirst m k))) ∧ Hid (Au (wr.setCell ⟨w.heap.size + 1, 7, none⟩ (.int .i64 x)) w.heap.size 41 Z) ∧ Below w.heap.size w (wr.setCell ⟨w.heap.size + 1, 7, none⟩ (.int .i64 x)) :=
            ⟨8, y, by omega, rfl, rfl, hy0, hy1, HY, HR1, HQ1, hb1⟩
          first | exact R | ((repeat apply Exists.intro); exact ⟨R, rfl⟩)
        case measure => simp [intOf]
    · obtain rfl : k = 8 := by omega
      have c8 : wr.cell? ⟨w.heap.size + 1, 8, none⟩ = some (iv 0) := HR.out.cell (partd_tail m 8 (by omega) (by omega))
      have c9 : wr.cell? ⟨w.heap.size + 1, 9, none⟩ = some (iv 0) := HR.out.cell (partd_tail m 9 (by omega) (by omega))
      have c10 : wr.cell? ⟨w.heap.size + 1, 10, none⟩ = some (iv 0) := HR.out.cell (partd_tail m 10 (by omega) (by omega))
      have f8 : wr.frozen? ⟨w.heap.size + 1, 8, none⟩ = false := HR.out.frozen 8
      have f9 : wr.frozen? ⟨w.heap.size + 1, 9, none⟩ = false := HR.out.frozen 9
      have f10 : wr.frozen? ⟨w.heap.size + 1, 10, none⟩ = false := HR.out.frozen 10
      obtain ⟨a, ha⟩ : ∃ a : Int, a = left / 16 := ⟨_, rfl⟩
      obtain ⟨b, hb0⟩ : ∃ b : Int, b = left % 16 / 4 := ⟨_, rfl⟩
      obtain ⟨c, hc⟩ : ∃ c : Int, c = left % 4 := ⟨_, rfl⟩
      have HA : Hid (a = (leftB m 8 / 16 : Nat)) := by show _ = _; have := HL.out; omega
      have HB : Hid (b = (leftB m 8 / 4 % 4 : Nat)) := by show _ = _; have := HL.out; omega
      have HC : Hid (c = (leftB m 8 % 4 : Nat)) := by show _ = _; have := HL.out; omega
      have ha' := ha.symm
      have hb0' := hb0.symm
      have hc' := hc.symm
      obtain ⟨L, hL⟩ : ∃ L, L = (digs m).map iv := ⟨_, rfl⟩
      have HLE : Hid (L = (digs m).map iv) := hL
      have HLL : Hid (L.length = 11) := by show _ = _; rw [hL, List.length_map, length_digs]
      have H1 : Hid (∀ u ∈ L, u.oneCell' = true) := by
        show ∀ u ∈ L, u.oneCell' = true
        rw [hL]; exact iv_one _
      obtain ⟨W3, hW3⟩ : ∃ W3, W3 = ((wr.setCell ⟨w.heap.size + 1, 8, none⟩ (.int .i64 a)).setCell ⟨w.heap.size + 1, 9, none⟩ (.int .i64 b)).setCell ⟨w.heap.size + 1, 10, none⟩ (.int .i64 c) := ⟨_, rfl⟩
      have HR3 : Hid (Au W3 (w.heap.size + 1) 41 L) := by
        have := ((HR.out.set 8 (.int .i64 a)).set 9 (.int .i64 b)).set 10 (.int .i64 c)
        rw [hW3, hL, ← partd_last m a b c HA.out HB.out HC.out]; exact this
      have HQ3 : Hid (Au W3 w.heap.size 41 Z) := by
        rw [hW3]; exact ((HQ.out.setOther _ _ (by simp)).setOther _ _ (by simp)).setOther _ _ (by simp)
      have hb3 : Below w.heap.size w W3 := by
        rw [hW3]
        exact ((hb.setCell (p := ⟨w.heap.size + 1, 8, none⟩) (by simp) _).setCell (p := ⟨w.heap.size + 1, 9, none⟩) (by simp) _).setCell (p := ⟨w.heap.size + 1, 10, none⟩) (by simp) _
      have HZL : Hid (Z.length = 11) := by show _ = _; rw [HZ.out, List.length_replicate]
      have HI : Hid ((Tryd.prog.info? 41).map (·.size) = some 11) := zeroD.2
      have HI2 : Hid ((Tryd.prog.info? 41).map (·.size) = some L.toArray.size) := by
        show _ = _
        rw [List.size_toArray, HLL.out]; exact HI.out
      have HI3 : Hid ((Tryd.prog.info? 41).map (·.size) = some L.length) := by
        show _ = _
        rw [HLL.out]; exact HI.out
      have HTH : Hid (W3.there w.heap.size 0 L.toArray.size) := HQ3.out.there _ (by rw [HZL.out, List.size_toArray, HLL.out]; exact Nat.le_refl _)
      have HB4 : Hid (Below w.heap.size w (W3.setCells w.heap.size 0 L)) := below_setCells (Nat.le_refl _) _ _ _ hb3
      have HAU : Hid (Au (W3.setCells w.heap.size 0 L) w.heap.size 41 L) := HQ3.out.store (by rw [HZL.out, HLL.out])
      have HW3 : Hid (((wr.setCell ⟨w.heap.size + 1, 8, none⟩ (.int .i64 a)).setCell ⟨w.heap.size + 1, 9, none⟩ (.int .i64 b)).setCell ⟨w.heap.size + 1, 10, none⟩ (.int .i64 c) = W3) := hW3.symm
      clear hL hW3 ha hb0 hc hb3
      go_wp2_with (first | (rw [HW3.out]; refine wpList_load_mid rfl 41 _ rfl (w.heap.size + 1) 0 rfl L _ HR3.out.range Tryd.underlying41 rfl HI3.out ?_) | (refine wpList_store_mid rfl 41 _ _ rfl w.heap.size 0 L.toArray rfl rfl HTH.out HI2.out (all_oneCell_toArray H1.out) ?_))
      refine bodyPost_ret (v := .agg L.toArray) ?_ rfl ⟨by rw [HLE.out], HB4.out⟩
      exact results_cell_row rfl _ _ w.heap.size 41 L.toArray (0, 0) _ rfl HAU.out Tryd.underlying41 rfl HI2.out
end Go.Proofs.YtppkjpfofgfiaaaDoor
