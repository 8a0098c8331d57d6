/- What spec.Var and impl.Var answer: the bytes of a number in range, seven bits each, else nothing; old memory stays. -/
import Derived.Test.YtdpjlfgfacjfeaaDoorPb
import Derived.Test.YtdpjlfgfacjfeaaDoorVnum
namespace Go.Proofs.YtdpjlfgfacjfeaaDoor
open Go.RowKit
open Num
set_option linter.unusedVariables false
set_option maxRecDepth 100000 in
set_option maxHeartbeats 400000 in
theorem spec_var_yes (n : Int) (w : World) (h1 : 0 ≤ n) (h2 : n ≤ 562949953421311) :
    Calls Tryd.prog 44 #[.int .i64 n] w fun e w' => e = .returned (.string (var n)) ∧ Below w.heap.size w w' := by
  rw [var_yes n h1 h2]
  obtain ⟨i0, hi, hz0, hz1, hz2⟩ := info5f
  go_enter Tryd.func44, Tryd.ntmps44
  go_wp2
  go_loopw [0, 3] (fun m out wr => ∃ (k : Nat) (m' : Int) (cs : List UInt8), k ≤ 6 ∧ m = .int .i64 m' ∧ 0 ≤ m' ∧ m' ≤ 562949953421311 ∧ Hid (m' < 128 ^ (7 - k)) ∧ Hid (cs ++ vl (6 - k) m' = vl 6 n) ∧ wr.ownsRow w.heap.size 5 1 out k (cs.map u8v) ∧ Below w.heap.size w wr) (fun m _ _ => (intOf m).toNat)
  case atStart => exact ⟨0, n, [], by omega, rfl, h1, h2, show n < 128 ^ (7 - 0) by simp; omega, rfl, own_empty w, (Below.refl _ _).alloc (Nat.le_refl _) _⟩
  case round =>
    obtain ⟨k, m, cs, hk, rfl, hm, hm', HB, HV, hown, hb⟩ := hrel
    have hsz : w.heap.size ≤ wr.heap.size := hb.size
    by_cases hge : 128 ≤ m
    · have hx0 : 0 ≤ 128 + m % 128 := by omega
      have hx1 : 128 + m % 128 < 256 := by omega
      have HC : Hid (_) := one_cell wr _ hx0 hx1
      have hv := vbound k m hk hge HB.out
      have HV' : Hid (_ ∧ _) := hv
      clear hv
      go_wp2_with (at_builtin; refine wpList_append_own _ rfl _ _ 22 rfl w.heap.size 5 i0 (.int .u8 0) 1 1 Tryd.underlying22 hi hz0 hz1 hz2 rfl (by decide) _ _ _ rfl (hown.alloc _) ⟨wr.heap.size, 0, none⟩ 1 1 ([UInt8.ofNat (128 + m % 128).toNat].map u8v) rfl rfl HC (u8v_one _) (by unfold maxLen; omega) (by omega) (by simp; omega) ?_)
      intro v' w1 hown' hgrow _
      replace hown' := own_snoc hown'
      have hb1 := (hb.alloc hsz (.cells #[.int .u8 (128 + m % 128)] 5)).grown hgrow (by simp; omega) (fun j hj => (hown.lt j hj).1)
      clear hgrow
      go_wp2
      go_roundw
      case rel =>
        have R : ∃ (k' : Nat) (m'' : Int) (cs' : List UInt8), k' ≤ 6 ∧ Value.int .i64 (m / 128) = .int .i64 m'' ∧ 0 ≤ m'' ∧ m'' ≤ 562949953421311 ∧ Hid (m'' < 128 ^ (7 - k')) ∧ Hid (cs' ++ vl (6 - k') m'' = vl 6 n) ∧ w1.ownsRow w.heap.size 5 1 v' k' (cs'.map u8v) ∧ Below w.heap.size w w1 := by
          refine ⟨k + 1, m / 128, _, by have := HV'.out.1; omega, rfl, by omega, by omega, HV'.out.2, ?_, hown', hb1⟩
          show _ = _
          rw [← HV.out, List.append_assoc, show 6 - k = (6 - (k + 1)) + 1 from by have := HV'.out.1; omega, vl_great _ _ hge]
          rfl
        first | exact R | ((repeat apply Exists.intro); exact ⟨R, rfl⟩)
      case measure => simp [intOf]; omega
    · have hx1 : m < 256 := by omega
      have HC : Hid (_) := one_cell wr m hm hx1
      have HF : Hid (vl 6 n = cs ++ [UInt8.ofNat m.toNat]) := by
        show _ = _
        rw [← HV.out, vl_small _ m (by omega)]
      go_wp2_with (at_builtin; refine wpList_append_own _ rfl _ _ 22 rfl w.heap.size 5 i0 (.int .u8 0) 1 1 Tryd.underlying22 hi hz0 hz1 hz2 rfl (by decide) _ _ _ rfl (hown.alloc _) ⟨wr.heap.size, 0, none⟩ 1 1 ([UInt8.ofNat m.toNat].map u8v) rfl rfl HC (u8v_one _) (by unfold maxLen; omega) (by omega) (by simp; omega) ?_)
      intro v' w1 hown' hgrow _
      replace hown' := own_snoc hown'
      have hcv := run_str_own (P := Tryd.prog) w1 22 9 5 Tryd.underlying22 Tryd.underlying5 Tryd.underlying9 _ v' _ _ hown'
      have hb1 := (hb.alloc hsz (.cells #[.int .u8 m] 5)).grown hgrow (by simp; omega) (fun j hj => (hown.lt j hj).1)
      clear hgrow hown'
      go_wp2
      go_ret
      exact ⟨by rw [HF.out]; simp, hb1⟩
set_option maxRecDepth 100000 in
set_option maxHeartbeats 400000 in
theorem impl_var_yes (n : Int) (w : World) (h1 : 0 ≤ n) (h2 : n ≤ 562949953421311) :
    Calls Tryd.prog 26 #[.int .i64 n] w fun e w' => e = .returned (.string (var n)) ∧ Below w.heap.size w w' := by
  rw [var_yes n h1 h2]
  obtain ⟨i0, hi, hz0, hz1, hz2⟩ := info5f
  go_enter Tryd.func26, Tryd.ntmps26
  go_wp2_with (at_make; refine wpList_make_full _ rfl _ _ 22 rfl w.heap.size 5 i0 (.int .u8 0) 1 Tryd.underlying22 hi hz0 hz1 _ _ _ _ 7 rfl rfl rfl rfl (by rw [hz2]; omega) (by unfold maxLen; omega) (Nat.le_refl _) ?_; intro w1 hown hgr)
  have hrow := own_whole hown
  rw [made_zero] at hrow
  have HR : Hid (_ = _) := hrow
  have hb1 := below_of_grown hgr
  clear hown hgr hrow
  go_loopw [0, 4] (fun m at_ wr => ∃ (k : Nat) (m' : Int) (cs : List UInt8), k ≤ 6 ∧ m = .int .i64 m' ∧ at_ = .int .i64 k ∧ 0 ≤ m' ∧ m' ≤ 562949953421311 ∧ Hid (m' < 128 ^ (7 - k)) ∧ Hid (cs ++ vl (6 - k) m' = vl 6 n) ∧ Hid (cs.length = k) ∧ Hid (wr.heap[w.heap.size]? = some (.cells ((cs ++ List.replicate (7 - k) 0).map u8v).toArray 5 (0, 0))) ∧ Below w.heap.size w wr) (fun m _ _ => (intOf m).toNat)
  case atStart => exact ⟨0, n, [], by omega, rfl, rfl, h1, h2, show n < 128 ^ (7 - 0) by simp; omega, rfl, rfl, HR, hb1⟩
  case round =>
    clear HR hb1 w1
    obtain ⟨k, m, cs, hk, rfl, rfl, hm, hm', HB, HV, HL, HR, hb⟩ := hrel
    have hsz : w.heap.size < wr.heap.size := (Array.getElem?_eq_some_iff.1 HR.out).1
    have HLL : Hid (_ = _) := show (cs ++ List.replicate (7 - k) 0).length = 7 by have := HL.out; simp; omega
    by_cases hge : 128 ≤ m
    · have hx0 : 0 ≤ m % 128 + 128 := by omega
      have hx1 : m % 128 + 128 < 256 := by omega
      have HO : Hid (_ = _) := one_row wr _ hx0 hx1
      have HV' : Hid (_ ∧ _) := vbound k m hk hge HB.out
      go_wp2_with fail
      refine (impl_pb w.heap.size wr.heap.size k 7 1 (cs ++ List.replicate (7 - k) 0) [UInt8.ofNat (m % 128 + 128).toNat] _ ?_ HLL.out ?_ rfl (by omega) (by omega) (by omega) w.heap.size (Nat.le_refl _)).mono ?_
      · rw [Below.heap_alloc _ _ _ hsz]; exact HR.out
      · exact HO.out
      · rintro e w2 ⟨rfl, hr2, hb2⟩
        have HR2 : Hid (_ = _) := hr2
        clear hr2
        go_wp2
        go_roundw
        case rel =>
          refine ⟨k + 1, m / 128, cs ++ [UInt8.ofNat (m % 128 + 128).toNat], by have := HV'.out.1; omega, rfl, by go_num, by omega, by omega, HV'.out.2, ?_, ?_, ?_, (hb.alloc hb.size _).trans hb2⟩
          · show _ = _
            rw [← HV.out, List.append_assoc, show 6 - k = (6 - (k + 1)) + 1 from by have := HV'.out.1; omega, vl_great _ _ hge, Int.add_comm (m % 128) 128]
            rfl
          · show _ = _
            have := HL.out; simp; omega
          · show _ = _
            rw [HR2.out, splice_fill _ _ _ _ HL.out (by simp; omega)]; rfl
        case measure => simp [intOf]; omega
    · have hx1 : m < 256 := by omega
      have HO : Hid (_ = _) := one_row wr m hm hx1
      have HF : Hid (vl 6 n = cs ++ [UInt8.ofNat m.toNat]) := by
        show _ = _
        rw [← HV.out, vl_small _ m (by omega)]
      go_wp2_with fail
      refine (impl_pb w.heap.size wr.heap.size k 7 1 (cs ++ List.replicate (7 - k) 0) [UInt8.ofNat m.toNat] _ ?_ HLL.out ?_ rfl (by omega) (by omega) (by omega) w.heap.size (Nat.le_refl _)).mono ?_
      · rw [Below.heap_alloc _ _ _ hsz]; exact HR.out
      · exact HO.out
      · rintro e w2 ⟨rfl, hr2, hb2⟩
        rw [splice_fill _ _ _ _ HL.out (by simp; omega)] at hr2
        have hcv := run_str_row (P := Tryd.prog) w2 22 9 5 Tryd.underlying22 Tryd.underlying5 Tryd.underlying9 w.heap.size 7 _ _ 5 (0, 0) hr2
        rw [show (cs ++ [UInt8.ofNat m.toNat]).length = k + 1 from by have := HL.out; simp; omega] at hcv
        clear hr2
        go_wp2
        go_ret
        exact ⟨by rw [HF.out]; simp, (hb.alloc hb.size _).trans hb2⟩
set_option maxRecDepth 100000 in
set_option maxHeartbeats 400000 in
theorem spec_var_no (n : Int) (w : World) (h : n < 0 ∨ 562949953421311 < n) :
    Calls Tryd.prog 44 #[.int .i64 n] w fun e w' => e = .returned (.string (var n)) ∧ Below w.heap.size w w' := by
  rw [var_no n h]
  rcases (show n < 0 ∨ 0 ≤ n ∧ 562949953421311 < n from by omega) with h | ⟨h, h'⟩
  · have hh : ¬ 0 ≤ n := by omega
    go_enter Tryd.func44, Tryd.ntmps44
    go_wp2
    go_ret
    exact ⟨rfl, Below.refl _ _⟩
  · have hh : ¬ n ≤ 562949953421311 := by omega
    go_enter Tryd.func44, Tryd.ntmps44
    go_wp2
    go_ret
    exact ⟨rfl, Below.refl _ _⟩
set_option maxRecDepth 100000 in
set_option maxHeartbeats 400000 in
theorem impl_var_no (n : Int) (w : World) (h : n < 0 ∨ 562949953421311 < n) :
    Calls Tryd.prog 26 #[.int .i64 n] w fun e w' => e = .returned (.string (var n)) ∧ Below w.heap.size w w' := by
  rw [var_no n h]
  rcases (show n < 0 ∨ 0 ≤ n ∧ 562949953421311 < n from by omega) with h | ⟨h, h'⟩
  · go_enter Tryd.func26, Tryd.ntmps26
    go_wp2
    go_ret
    exact ⟨rfl, Below.refl _ _⟩
  · go_enter Tryd.func26, Tryd.ntmps26
    go_wp2
    go_ret
    exact ⟨rfl, Below.refl _ _⟩
set_option maxRecDepth 100000 in
theorem spec_var (n : Int) (w : World) :
    Calls Tryd.prog 44 #[.int .i64 n] w fun e w' => e = .returned (.string (var n)) ∧ Below w.heap.size w w' := by
  by_cases h : n < 0 ∨ 562949953421311 < n
  · exact spec_var_no n w h
  · exact spec_var_yes n w (by omega) (by omega)
set_option maxRecDepth 100000 in
theorem impl_var (n : Int) (w : World) :
    Calls Tryd.prog 26 #[.int .i64 n] w fun e w' => e = .returned (.string (var n)) ∧ Below w.heap.size w w' := by
  by_cases h : n < 0 ∨ 562949953421311 < n
  · exact impl_var_no n w h
  · exact impl_var_yes n w (by omega) (by omega)
end Go.Proofs.YtdpjlfgfacjfeaaDoor
