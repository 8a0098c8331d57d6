/- What spec.Fixed and impl.Fixed answer: the lowest bytes of a number that fits, else nothing; old memory stays. -/
import Derived.Test.YtglngepjphgpoaaDoorCur4
import Derived.Test.YtglngepjphgpoaaDoorRdec
import Derived.Test.YtglngepjphgpoaaDoorNum
import Derived.Test.YtglngepjphgpoaaDoorLaw
import Derived.WalkKit
import Derived.WalkLawsBesides
import Derived.WalkSpells
namespace Go.Proofs.YtglngepjphgpoaaDoor
open Go.RowKit
open Num
set_option linter.unusedVariables false
theorem info5 : (Tryd.prog.info? 5).map (·.size) = some 1 := by kernel_rfl
theorem map_splice (cur cs : List UInt8) (k : Nat) : splice (cur.map u8v) k (cs.map u8v) = (splice cur k cs).map u8v := by
  simp [splice, List.map_take, List.map_drop]
set_option maxHeartbeats 400000 in
theorem impl_pb (g g2 k n m : Nat) (cur cs : List UInt8) (w : World) (hg : w.heap[g]? = some (.cells (cur.map u8v).toArray 5 (0, 0))) (hn : cur.length = n) (hg2 : w.heap[g2]? = some (.cells (cs.map u8v).toArray 5 (0, 0)))
    (hm : cs.length = m) (hkm : k + m ≤ n) (hm1 : 1 ≤ m) (hnn : n ≤ 1099511627776) (B : Nat) (hB : B ≤ g) :
    Calls Tryd.prog 23 #[.slice (some ⟨g, 0, none⟩) n n, .int .i64 k, .slice (some ⟨g2, 0, none⟩) m m] w fun e w' =>
      e = .returned (.int .i64 ((k : Int) + (m : Int))) ∧ w'.heap[g]? = some (.cells ((splice cur k cs).map u8v).toArray 5 (0, 0)) ∧ Below B w w' := by
  have HG : Hid (w.heap[g]? = some (.cells (cur.map u8v).toArray 5 (0, 0))) := hg
  have HG2 : Hid (w.heap[g2]? = some (.cells (cs.map u8v).toArray 5 (0, 0))) := hg2
  have HN : Hid (cur.length = n) := hn
  have HM : Hid (cs.length = m) := hm
  clear hg hg2 hn hm
  have hlt : (k : Int) < (n : Int) := by omega
  have hcp := run_copy_row (P := Tryd.prog) w 22 22 3 5 g k (n - k) (n - k) ⟨g2, 0, none⟩ m m (cur.map u8v).toArray 5 (cs.map u8v) Tryd.underlying22 info5 HG.out (by
      have := HM.out; have h2 : m ≤ n - k := by omega
      simp only [List.length_map, this]; exact (Nat.min_eq_left h2).symm) (fun j v hj => by
      rw [add_at, cell_of_row w g2 j _ 5 (0, 0) HG2.out]; simpa using hj) (by
      have := HM.out; have := HN.out; simp; omega) (u8v_one cs)
  have hlen : (cs.map u8v).length = m := by simpa using HM.out
  rw [hlen] at hcp
  clear hlen
  go_enter Tryd.func23, Tryd.ntmps23
  go_wp2
  go_ret
  refine ⟨rfl, ?_, below_setRow (Below.refl _ _) hB _⟩
  rw [setRow_heap w g _ _ 5 _ HG.out]
  simp [splice, HM.out]
set_option maxHeartbeats 400000 in
theorem impl_fx_yes (n width : Int) (w : World) (h1 : 1 ≤ width) (h2 : width ≤ 7) (h3 : 0 ≤ n) (h4 : n ≤ 9223372036854775807) (h5 : n / 256 ^ width.toNat ≤ 0) :
    Calls Tryd.prog 11 #[.int .i64 n, .int .i64 width] w fun e w' => e = .returned (.string (fx n width)) ∧ Below w.heap.size w w' := by
  obtain ⟨m, rfl⟩ : ∃ m : Nat, width = (m : Int) := ⟨width.toNat, by omega⟩
  rw [fx_yes n m h1 h2 h3 h5]
  obtain ⟨i0, hi, hz0, hz1, hz2⟩ := info5f
  have hsh : (n / 2 ^ (8 * m) != 0) = false := by
    have := div_pow_nonneg n m h3
    rw [two_pow8]; simp at h5 ⊢; omega
  have hn0 : ¬ n < 0 := by omega
  clear h5
  go_enter Tryd.func11, Tryd.ntmps11
  go_wp2_with (first | go_in | (at_make; refine wpList_make_full _ rfl _ _ 22 rfl w.heap.size 5 i0 (.int .u8 0) 1 Tryd.underlying22 hi hz0 hz1 _ _ _ _ m rfl rfl rfl rfl (by rw [hz2]; omega) (by unfold maxLen; omega) (Nat.le_refl _) ?_; intro w1 hown hgr))
  have hrow := own_whole hown
  rw [made_zero, ← rowPart_zero (lo n m) m] at hrow
  have HR : Hid (_ = _) := hrow
  have hb1 := below_of_grown hgr
  clear hown hgr hrow
  go_loopw [6] (fun at_ wr => ∃ k : Nat, k ≤ m ∧ at_ = .int .i64 k ∧ Hid (wr.heap[w.heap.size]? = some (.cells ((rowPart (lo n m) k m).map u8v).toArray 5 (0, 0))) ∧ Below w.heap.size w wr) (fun at_ _ => m - (intOf at_).toNat)
  case atStart => exact ⟨0, by omega, rfl, HR, hb1⟩
  case round =>
    clear HR hb1 w1
    obtain ⟨k, hk, rfl, HR, hb⟩ := hrel
    by_cases hlt : (k : Int) < (m : Int)
    · have hx0 : 0 ≤ n / 2 ^ (8 * (m - 1 - k)) % 256 := by omega
      have hx1 : n / 2 ^ (8 * (m - 1 - k)) % 256 < 256 := by omega
      have HO : Hid (_ = _) := one_row wr _ hx0 hx1
      have hlen := length_lo n m
      have HL : Hid (_ = _) := length_rowPart (lo n m) k m hlen hk
      have HA : Hid (_ = _) := lo_at n m k (by omega)
      have HLN : Hid (_ = _) := hlen
      clear hlen hx0 hx1
      have hsz : w.heap.size < wr.heap.size := (Array.getElem?_eq_some_iff.1 HR.out).1
      go_wp2_with fail
      refine (impl_pb w.heap.size wr.heap.size k m 1 (rowPart (lo n m) k m) [UInt8.ofNat (n / 2 ^ (8 * (m - 1 - k)) % 256).toNat] _ ?_ HL.out ?_ rfl (by omega) (by omega) (by omega) w.heap.size (Nat.le_refl _)).mono ?_
      · rw [Below.heap_alloc _ _ _ hsz]; exact HR.out
      · exact HO.out
      · rintro e w2 ⟨rfl, hr2, hb2⟩
        have HR2 : Hid (_ = _) := hr2
        clear hr2
        go_wp2
        go_roundw
        case rel =>
          refine ⟨k + 1, by omega, by go_num, ?_, (hb.alloc hb.size _).trans hb2⟩
          show _ = _
          rw [HR2.out, splice_rowPart (lo n m) _ k m HLN.out (by simp; omega) (by
            have := HA.out
            rw [← two_pow8] at this
            rw [List.length_singleton, List.take_one, List.head?_drop, this]; rfl)]
          rfl
        case measure => simp [intOf]; omega
    · have hkm : k = m := by omega
      subst hkm
      have hcv := run_str_row (P := Tryd.prog) wr 22 9 5 Tryd.underlying22 Tryd.underlying5 Tryd.underlying9 w.heap.size k (lo n k) [] 5 (0, 0) (by
        rw [HR.out, rowPart_all _ _ (length_lo n k)]; simp)
      rw [length_lo] at hcv
      go_wp2
      go_ret
      exact ⟨rfl, hb⟩
set_option maxHeartbeats 400000 in
theorem impl_fx_no (n width : Int) (w : World) (h4 : n ≤ 9223372036854775807) (h : width < 1 ∨ 7 < width ∨ n < 0 ∨ 0 < n / 256 ^ width.toNat) :
    Calls Tryd.prog 11 #[.int .i64 n, .int .i64 width] w fun e w' => e = .returned (.string (fx n width)) ∧ Below w.heap.size w w' := by
  rw [fx_no n width h]
  rcases (show width < 1 ∨ (1 ≤ width ∧ 7 < width) ∨ (1 ≤ width ∧ width ≤ 7 ∧ n < 0) ∨ (1 ≤ width ∧ width ≤ 7 ∧ 0 ≤ n ∧ 0 < n / 256 ^ width.toNat) from by omega) with h | ⟨h, h'⟩ | ⟨h, h', h''⟩ | ⟨h, h', h'', h5⟩
  · have hh : ¬ 1 ≤ width := by omega
    go_enter Tryd.func11, Tryd.ntmps11
    go_wp2
    go_ret
    exact ⟨rfl, Below.refl _ _⟩
  · have hh : ¬ width ≤ 7 := by omega
    go_enter Tryd.func11, Tryd.ntmps11
    go_wp2
    go_ret
    exact ⟨rfl, Below.refl _ _⟩
  · go_enter Tryd.func11, Tryd.ntmps11
    go_wp2
    go_ret
    exact ⟨rfl, Below.refl _ _⟩
  · obtain ⟨m, rfl⟩ : ∃ m : Nat, width = (m : Int) := ⟨width.toNat, by omega⟩
    have hsh : (n / 2 ^ (8 * m) != 0) = true := by
      rw [two_pow8]; simp at h5 ⊢; omega
    have hn0 : ¬ n < 0 := by omega
    clear h5
    go_enter Tryd.func11, Tryd.ntmps11
    go_wp2
    go_ret
    exact ⟨rfl, Below.refl _ _⟩
theorem impl_fx (n width : Int) (w : World) (hn : n ≤ 9223372036854775807) :
    Calls Tryd.prog 11 #[.int .i64 n, .int .i64 width] w fun e w' => e = .returned (.string (fx n width)) ∧ Below w.heap.size w w' := by
  by_cases h : width < 1 ∨ 7 < width ∨ n < 0 ∨ 0 < n / 256 ^ width.toNat
  · exact impl_fx_no n width w hn h
  · exact impl_fx_yes n width w (by omega) (by omega) (by omega) hn (by omega)
end Go.Proofs.YtglngepjphgpoaaDoor
