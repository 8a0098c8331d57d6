/- What spec.Fixed and impl.Fixed answer: the lowest bytes of a number that fits, else nothing; old memory stays. -/
import Derived.Test.YtdpjlfgfacjfeaaDoorPb
import Derived.Test.YtdpjlfgfacjfeaaDoorNum
import Derived.Test.YtdpjlfgfacjfeaaDoorLaw
import Derived.WalkKit
import Derived.WalkLawsBesides
import Derived.WalkSpells
namespace Go.Proofs.YtdpjlfgfacjfeaaDoor
open Go.RowKit
open Num
set_option linter.unusedVariables false
set_option maxRecDepth 100000 in
set_option maxHeartbeats 400000 in
theorem spec_fx_yes (n width : Int) (w : World) (h1 : 1 ≤ width) (h2 : width ≤ 7) (h3 : 0 ≤ n) (h4 : n ≤ 9223372036854775807) :
    Calls Tryd.prog 30 #[.int .i64 n, .int .i64 width] w fun e w' => e = .returned (.string (fx n width)) ∧ Below w.heap.size w w' := by
  go_enter Tryd.func30, Tryd.ntmps30
  go_wp2
  go_loopw [0, 5, 6] (fun m out i wr => ∃ k : Nat, (k : Int) ≤ width ∧ i = .int .i64 k ∧ (∃ m' : Int, m = .int .i64 m' ∧ 0 ≤ m' ∧ m' ≤ 9223372036854775807 ∧ Hid (m' = n / 256 ^ k)) ∧ (∃ s : ByteArray, s.size = k ∧ out = .string s ∧ Hid (s = ⟨(lo n k).toArray⟩)) ∧ Below w.heap.size w wr) (fun _ _ i _ => width.toNat - (intOf i).toNat)
  case atStart => exact ⟨0, by omega, rfl, ⟨n, rfl, h3, by omega, show n = n / 256 ^ 0 by simp⟩, ⟨_, rfl, rfl, rfl⟩, Below.refl _ _⟩
  case round =>
    obtain ⟨k, hk, rfl, ⟨m', rfl, hm, hm', Hm⟩, ⟨s, hs, rfl, Hs⟩, hb⟩ := hrel
    have hs7 : s.size ≤ 7 := by omega
    have HS : Hid (s.size = k) := hs
    clear hs
    by_cases hlt : (k : Int) < width
    · have hcv := run_str_one (P := Tryd.prog) wr 22 9 5 Tryd.underlying22 Tryd.underlying5 Tryd.underlying9 (m' % 256) (by omega) (by omega)
      go_wp2
      go_roundw
      case rel =>
        refine ⟨k + 1, by omega, by go_num, ⟨m' / 256, rfl, by omega, by omega, ?_⟩, ⟨_, ?_, rfl, ?_⟩, hb.alloc hb.size _⟩
        · show m' / 256 = _
          rw [Hm.out, div_pow_succ]
        · rw [ByteArray.size_append, HS.out]; show 1 + k = k + 1; omega
        · show _ = _
          rw [Hs.out, cons_mk, Hm.out]; rfl
      case measure => simp [intOf]; omega
    · have hkw : width = (k : Int) := by omega
      clear hlt
      subst hkw
      by_cases hz : 0 < m'
      · have hfin : Hid (fx n k = ⟨#[]⟩) := fx_no n k (by have := Hm.out; simp; omega)
        go_wp2
        go_ret
        exact ⟨ret_str hfin.out.symm, hb⟩
      · have hfin : Hid (fx n k = s) := by
          show _ = _
          rw [fx_yes n k h1 h2 h3 (by have := Hm.out; simp; omega), Hs.out]; rfl
        go_wp2
        go_ret
        exact ⟨ret_str hfin.out.symm, hb⟩
set_option maxRecDepth 100000 in
set_option maxHeartbeats 400000 in
theorem spec_fx_no (n width : Int) (w : World) (h : width < 1 ∨ 7 < width ∨ n < 0) :
    Calls Tryd.prog 30 #[.int .i64 n, .int .i64 width] w fun e w' => e = .returned (.string (fx n width)) ∧ Below w.heap.size w w' := by
  rw [fx_no n width (by omega)]
  rcases (show width < 1 ∨ (1 ≤ width ∧ 7 < width) ∨ (1 ≤ width ∧ width ≤ 7 ∧ n < 0) from by omega) with h | ⟨h, h'⟩ | ⟨h, h', h''⟩
  · have hh : ¬ 1 ≤ width := by omega
    go_enter Tryd.func30, Tryd.ntmps30
    go_wp2
    go_ret
    exact ⟨rfl, Below.refl _ _⟩
  · have hh : ¬ width ≤ 7 := by omega
    go_enter Tryd.func30, Tryd.ntmps30
    go_wp2
    go_ret
    exact ⟨rfl, Below.refl _ _⟩
  · go_enter Tryd.func30, Tryd.ntmps30
    go_wp2
    go_ret
    exact ⟨rfl, Below.refl _ _⟩
set_option maxRecDepth 100000 in
theorem spec_fx (n width : Int) (w : World) (hn : n ≤ 9223372036854775807) :
    Calls Tryd.prog 30 #[.int .i64 n, .int .i64 width] w fun e w' => e = .returned (.string (fx n width)) ∧ Below w.heap.size w w' := by
  by_cases h : width < 1 ∨ 7 < width ∨ n < 0
  · exact spec_fx_no n width w h
  · exact spec_fx_yes n width w (by omega) (by omega) (by omega) hn
set_option maxRecDepth 100000 in
set_option maxHeartbeats 400000 in
theorem impl_fx_yes (n width : Int) (w : World) (h1 : 1 ≤ width) (h2 : width ≤ 7) (h3 : 0 ≤ n) (h4 : n ≤ 9223372036854775807) (h5 : n / 256 ^ width.toNat ≤ 0) :
    Calls Tryd.prog 27 #[.int .i64 n, .int .i64 width] w fun e w' => e = .returned (.string (fx n width)) ∧ Below w.heap.size w w' := by
  obtain ⟨m, rfl⟩ : ∃ m : Nat, width = (m : Int) := ⟨width.toNat, by omega⟩
  rw [fx_yes n m h1 h2 h3 h5]
  obtain ⟨i0, hi, hz0, hz1, hz2⟩ := info5f
  have hsh : (n / 2 ^ (8 * m) != 0) = false := by
    have := div_pow_nonneg n m h3
    rw [two_pow8]; simp at h5 ⊢; omega
  have hn0 : ¬ n < 0 := by omega
  clear h5
  go_enter Tryd.func27, Tryd.ntmps27
  go_wp2_with (first | go_in | (at_make; refine wpList_make_full _ rfl _ _ 22 rfl w.heap.size 5 i0 (.int .u8 0) 1 Tryd.underlying22 hi hz0 hz1 _ _ _ _ m rfl rfl rfl rfl (by rw [hz2]; omega) (by unfold maxLen; omega) (Nat.le_refl _) ?_; intro w1 hown hgr))
  have hrow := own_whole hown
  rw [made_zero, ← rowPart_zero (lo n m) m] at hrow
  have HR : Hid (_ = _) := hrow
  have hb1 := below_of_grown hgr
  clear hown hgr hrow
  go_loopw [6] (fun at_ wr => ∃ k : Nat, k ≤ m ∧ at_ = .int .i64 k ∧ Hid (wr.heap[w.heap.size]? = some (.cells ((rowPart (lo n m) k m).map u8v).toArray 5 (0, 0))) ∧ Below w.heap.size w wr) (fun at_ _ => m - (intOf at_).toNat)
  case atStart => exact ⟨0, by omega, rfl, HR, hb1⟩
  case round =>
    clear HR hb1 w1
    obtain ⟨k, hk, rfl, HR, hb⟩ := hrel
    by_cases hlt : (k : Int) < (m : Int)
    · have hx0 : 0 ≤ n / 2 ^ (8 * (m - 1 - k)) % 256 := by omega
      have hx1 : n / 2 ^ (8 * (m - 1 - k)) % 256 < 256 := by omega
      have HO : Hid (_ = _) := one_row wr _ hx0 hx1
      have hlen := length_lo n m
      have HL : Hid (_ = _) := length_rowPart (lo n m) k m hlen hk
      have HA : Hid (_ = _) := lo_at n m k (by omega)
      have HLN : Hid (_ = _) := hlen
      clear hlen hx0 hx1
      have hsz : w.heap.size < wr.heap.size := (Array.getElem?_eq_some_iff.1 HR.out).1
      go_wp2_with fail
      refine (impl_pb w.heap.size wr.heap.size k m 1 (rowPart (lo n m) k m) [UInt8.ofNat (n / 2 ^ (8 * (m - 1 - k)) % 256).toNat] _ ?_ HL.out ?_ rfl (by omega) (by omega) (by omega) w.heap.size (Nat.le_refl _)).mono ?_
      · rw [Below.heap_alloc _ _ _ hsz]; exact HR.out
      · exact HO.out
      · rintro e w2 ⟨rfl, hr2, hb2⟩
        have HR2 : Hid (_ = _) := hr2
        clear hr2
        go_wp2
        go_roundw
        case rel =>
          refine ⟨k + 1, by omega, by go_num, ?_, (hb.alloc hb.size _).trans hb2⟩
          show _ = _
          rw [HR2.out, splice_rowPart (lo n m) _ k m HLN.out (by simp; omega) (by
            have := HA.out
            rw [← two_pow8] at this
            rw [List.length_singleton, List.take_one, List.head?_drop, this]; rfl)]
          rfl
        case measure => simp [intOf]; omega
    · have hkm : k = m := by omega
      subst hkm
      have hcv := run_str_row (P := Tryd.prog) wr 22 9 5 Tryd.underlying22 Tryd.underlying5 Tryd.underlying9 w.heap.size k (lo n k) [] 5 (0, 0) (by
        rw [HR.out, rowPart_all _ _ (length_lo n k)]; simp)
      rw [length_lo] at hcv
      go_wp2
      go_ret
      exact ⟨rfl, hb⟩
set_option maxRecDepth 100000 in
set_option maxHeartbeats 400000 in
theorem impl_fx_no (n width : Int) (w : World) (h4 : n ≤ 9223372036854775807) (h : width < 1 ∨ 7 < width ∨ n < 0 ∨ 0 < n / 256 ^ width.toNat) :
    Calls Tryd.prog 27 #[.int .i64 n, .int .i64 width] w fun e w' => e = .returned (.string (fx n width)) ∧ Below w.heap.size w w' := by
  rw [fx_no n width h]
  rcases (show width < 1 ∨ (1 ≤ width ∧ 7 < width) ∨ (1 ≤ width ∧ width ≤ 7 ∧ n < 0) ∨ (1 ≤ width ∧ width ≤ 7 ∧ 0 ≤ n ∧ 0 < n / 256 ^ width.toNat) from by omega) with h | ⟨h, h'⟩ | ⟨h, h', h''⟩ | ⟨h, h', h'', h5⟩
  · have hh : ¬ 1 ≤ width := by omega
    go_enter Tryd.func27, Tryd.ntmps27
    go_wp2
    go_ret
    exact ⟨rfl, Below.refl _ _⟩
  · have hh : ¬ width ≤ 7 := by omega
    go_enter Tryd.func27, Tryd.ntmps27
    go_wp2
    go_ret
    exact ⟨rfl, Below.refl _ _⟩
  · go_enter Tryd.func27, Tryd.ntmps27
    go_wp2
    go_ret
    exact ⟨rfl, Below.refl _ _⟩
  · obtain ⟨m, rfl⟩ : ∃ m : Nat, width = (m : Int) := ⟨width.toNat, by omega⟩
    have hsh : (n / 2 ^ (8 * m) != 0) = true := by
      rw [two_pow8]; simp at h5 ⊢; omega
    have hn0 : ¬ n < 0 := by omega
    clear h5
    go_enter Tryd.func27, Tryd.ntmps27
    go_wp2
    go_ret
    exact ⟨rfl, Below.refl _ _⟩
set_option maxRecDepth 100000 in
theorem impl_fx (n width : Int) (w : World) (hn : n ≤ 9223372036854775807) :
    Calls Tryd.prog 27 #[.int .i64 n, .int .i64 width] w fun e w' => e = .returned (.string (fx n width)) ∧ Below w.heap.size w w' := by
  by_cases h : width < 1 ∨ 7 < width ∨ n < 0 ∨ 0 < n / 256 ^ width.toNat
  · exact impl_fx_no n width w hn h
  · exact impl_fx_yes n width w (by omega) (by omega) (by omega) hn (by omega)
end Go.Proofs.YtdpjlfgfacjfeaaDoor
