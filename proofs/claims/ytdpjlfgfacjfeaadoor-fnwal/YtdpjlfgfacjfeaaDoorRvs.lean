/- What spec.ReadVar answers: the first beginning that is a number of seven bits to a byte, and its length; old memory stays. -/
import Derived.Test.YtdpjlfgfacjfeaaDoorVar
import Derived.Test.YtdpjlfgfacjfeaaDoorRnum
import Derived.Test.YtdpjlfgfacjfeaaDoorRvi
import Derived.Deep.RegionWith
namespace Go.Proofs.YtdpjlfgfacjfeaaDoor
open Go.RowKit
open Num
set_option linter.unusedVariables false
set_option maxRecDepth 100000 in
theorem drop_step (s : ByteArray) (j k : Nat) (hj : j < k) (hk : k ≤ s.size) : (s.data.toList.take k).drop j = s[j] :: (s.data.toList.take k).drop (j + 1) := by
  have hl := len_toList s
  rw [List.drop_eq_getElem_cons (by simp; omega), List.getElem_take]; rfl
set_option maxRecDepth 100000 in
theorem ext_toList (s : ByteArray) (k : Nat) (hk : k ≤ s.size) : (s.extract 0 k).toList = s.data.toList.take k := by
  rw [Go.ByteArray.toList_eq]; simp
set_option maxRecDepth 100000 in
theorem eq_good (s : ByteArray) (k : Nat) (hk : k ≤ s.size) (h7 : k ≤ 7) : ((var (val (s.data.toList.take k))).toList == (s.extract 0 k).toList) = good (s.data.toList.take k) := by
  have hlen : (s.data.toList.take k).length ≤ 7 := by have := List.length_take_le k s.data.toList; omega
  have hv := val_le7 _ hlen
  rw [ext_toList s k hk, var_yes _ hv.1 hv.2, Go.ByteArray.toList_mk, Bool.eq_iff_iff, good_iff _ hlen, beq_iff_eq]
set_option maxHeartbeats 400000 in
set_option maxRecDepth 100000 in
theorem spec_rv (s : ByteArray) (w : World) (hs : s.size ≤ maxLen) :
    Calls Tryd.prog 50 #[.string s] w fun e w' => e = .returned (.tuple #[.int .i64 (rv s.data.toList).1, .int .i64 ((rv s.data.toList).2 : Nat)]) ∧ Below w.heap.size w w' := by
  unfold maxLen at hs
  obtain ⟨v, hv⟩ : ∃ v, v = rv s.data.toList := ⟨_, rfl⟩
  have HV : Hid (_ = _) := hv
  rw [← hv]
  clear hv
  go_enter Tryd.func50, Tryd.ntmps50
  go_wp2
  go_loopw [4] (fun i wr => ∃ k : Nat, 1 ≤ k ∧ k ≤ 8 ∧ i = .int .i64 k ∧ Hid (v = rvGo s.data.toList (8 - k) k) ∧ Below w.heap.size w wr) (fun i _ => 8 - (intOf i).toNat)
  case atStart => exact ⟨1, by omega, by omega, rfl, HV, Below.refl _ _⟩
  case round =>
    clear HV
    obtain ⟨k, hk1, hk8, rfl, HG, hb⟩ := hrel
    by_cases hin : k ≤ 7 ∧ k ≤ s.size
    · obtain ⟨h7, hks⟩ := hin
      obtain ⟨wo, rfl⟩ : ∃ wo : World, wo = wr := ⟨_, rfl⟩
      go_wp2
      go_loop [5, 6] (fun n i => ∃ j : Nat, j ≤ k ∧ i = .int .i64 ((j : Int) - 1) ∧ n = .int .i64 (val ((s.data.toList.take k).drop j))) (fun _ i => (intOf i + 1).toNat)
      case atStart => exact ⟨k, by omega, rfl, by rw [List.drop_eq_nil_of_le (List.length_take_le ..)]; rfl⟩
      case round =>
        obtain ⟨j, hj, rfl, rfl⟩ := hrel
        have hlen : ((s.data.toList.take k).drop j).length ≤ 7 := by have := List.length_take_le k s.data.toList; rw [List.length_drop]; omega
        have hvb := val_le7 _ hlen
        clear hlen
        cases j with
        | zero =>
          rw [List.drop_zero] at hvb ⊢
          cases hg : good (s.data.toList.take k) with
          | true =>
            have heq := (eq_good s k hks h7).trans hg
            have HF : Hid (v = (val (s.data.toList.take k), k)) := HG.out.trans (by rw [show 8 - k = (7 - k) + 1 from by omega]; exact rvGo_yes _ _ _ (by rw [len_toList]; omega) hg)
            clear HG hg
            go_wp2
            go_region_with (go_at_call 44; refine (spec_var _ _).mono ?_; rintro e w' ⟨rfl, hbv⟩)
            go_wp2
            go_ret2
            exact ⟨ret_rv HF.out (by omega), (hb.drew).trans (hbv.mono hb.size)⟩
          | false =>
            have heq := (eq_good s k hks h7).trans hg
            have HF : Hid (v = rvGo s.data.toList (8 - (k + 1)) (k + 1)) := HG.out.trans (by rw [show 8 - k = (8 - (k + 1)) + 1 from by omega]; exact rvGo_no _ _ _ hg)
            clear HG hg
            go_wp2
            go_region_with (go_at_call 44; refine (spec_var _ _).mono ?_; rintro e w' ⟨rfl, hbv⟩)
            go_wp2
            go_roundw
            case rel => exact ⟨k + 1, by omega, by omega, by go_num, HF, (hb.drew).trans (hbv.mono hb.size)⟩
            case measure => simp [intOf]; omega
        | succ j =>
          have hjs : j < s.size := by omega
          have hbb : (s[j].toNat : Int) < 256 := by have := s[j].toNat_lt; omega
          have HS : Hid (_ = _) := congrArg val (drop_step s j k (by omega) hks)
          have e : ((j + 1 : Nat) : Int) - 1 = (j : Int) := by omega
          rw [e]
          clear e
          generalize hx : val ((s.data.toList.take k).drop (j + 1)) = x at hvb ⊢
          have HX : Hid (_ = _) := hx
          clear hx
          go_wp2
          go_round
          case rel => exact ⟨j, by omega, by go_num, by rw [HS.out]; simp only [val, HX.out]; go_num⟩
          case measure => simp [intOf]
    · have HZ : Hid (v = (0, 0)) := by
        show _ = _
        rw [HG.out]
        by_cases h8 : k = 8
        · subst h8; rfl
        · exact rvGo_short _ _ _ (by rw [len_toList]; omega)
      by_cases h7 : k ≤ 7
      · have hh : ¬ (k : Int) ≤ (s.size : Int) := by omega
        go_wp2
        go_ret2
        exact ⟨ret_rv HZ.out (by omega), hb⟩
      · go_wp2
        go_ret2
        exact ⟨ret_rv HZ.out (by omega), hb⟩
end Go.Proofs.YtdpjlfgfacjfeaaDoor
