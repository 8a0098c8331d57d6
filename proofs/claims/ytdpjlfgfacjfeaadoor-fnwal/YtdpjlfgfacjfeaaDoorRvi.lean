/- What impl.ReadVar answers: the first beginning that is a number of seven bits to a byte, and its length; memory stays. -/
import Derived.Test.YtdpjlfgfacjfeaaDoorVar
import Derived.Test.YtdpjlfgfacjfeaaDoorRnum

namespace Go.Proofs.YtdpjlfgfacjfeaaDoor
open Go.RowKit
open Num
set_option linter.unusedVariables false
set_option maxRecDepth 100000 in
theorem wrap64_in {n : Int} (h0 : -9223372036854775808 ≤ n) (h1 : n ≤ 9223372036854775807) : wrap64 n = n := by unfold wrap64; omega
set_option maxRecDepth 100000 in
theorem w64b (c : UInt8) : wrap64 (c.toNat : Int) = (c.toNat : Int) := wrap64_in (by omega) (by have := c.toNat_lt; omega)
set_option maxRecDepth 100000 in
theorem ret_rv {v : Int × Nat} {a b : Int} (h : v = (a, b.toNat)) (hb : 0 ≤ b) : Ending.returned (.tuple #[.int .i64 a, .int .i64 b]) = .returned (.tuple #[.int .i64 v.1, .int .i64 (v.2 : Nat)]) := by
  subst h; simp [Int.toNat_of_nonneg hb]
set_option maxHeartbeats 400000 in
set_option maxRecDepth 100000 in
theorem impl_rv7 (s : ByteArray) (w : World) (hs : s.size ≤ maxLen) (h7 : 7 < (s.size : Int)) :
    Calls Tryd.prog 46 #[.string s] w fun e w' => e = .returned (.tuple #[.int .i64 (rv s.data.toList).1, .int .i64 ((rv s.data.toList).2 : Nat)]) ∧ w' = w := by
  unfold maxLen at hs
  obtain ⟨v, hv⟩ : ∃ v, v = rv s.data.toList := ⟨_, rfl⟩
  have HV : Hid (_ = _) := hv
  rw [← hv]
  clear hv
  go_enter Tryd.func46, Tryd.ntmps46
  go_wp2
  go_loop [4, 10] (fun n i => ∃ k : Nat, k ≤ 7 ∧ i = .int .i64 k ∧ n = .int .i64 (val (s.data.toList.take k)) ∧ Hid (∀ x ∈ s.data.toList.take k, 128 ≤ x.toNat) ∧ Hid (v = rvGo s.data.toList (7 - k) (k + 1))) (fun _ i => 7 - (intOf i).toNat)
  case atStart => exact ⟨0, by omega, rfl, rfl, show ∀ x ∈ _, _ by simp, HV⟩
  case round =>
    obtain ⟨k, hk, rfl, rfl, HA, HG⟩ := hrel
    by_cases hlt : k < 7
    · have hks : k < s.size := by omega
      have hvb := val_le7 (s.data.toList.take k) (by have := List.length_take_le k s.data.toList; omega)
      have hb : (s[k].toNat : Int) < 256 := by have := s[k].toNat_lt; omega
      have HS : Hid (_ = _) := val_step s k hks
      generalize val (s.data.toList.take k) = x at hvb HS ⊢
      by_cases h1 : 128 ≤ (s[k].toNat : Int)
      · have R := rv_on s k hks (by omega) HA.out (by omega)
        have HG' : Hid (v = _) := HG.out.trans R.1
        have HA' : Hid (_) := R.2
        clear R HG HA HV
        rcases (show k = 0 ∨ k = 1 ∨ k = 2 ∨ k = 3 ∨ k = 4 ∨ k = 5 ∨ k = 6 from by omega) with rfl | rfl | rfl | rfl | rfl | rfl | rfl
        all_goals
          go_wp2
          go_round
          case rel => exact ⟨_, by omega, by go_num, by have := HS.out; simp at this ⊢; omega, HA', HG'⟩
          case measure => simp [intOf]
      · by_cases h0 : s[k].toNat = 0 ∧ 0 < k
        · obtain ⟨h0, hk0⟩ := h0
          have HZ : Hid (v = _) := HG.out.trans (rv_zero s k hks (by omega) HA.out h0 hk0)
          have h00 : (s[k].toNat : Int) = 0 := by omega
          clear HG HA HV h0 h1 hb
          rcases (show k = 1 ∨ k = 2 ∨ k = 3 ∨ k = 4 ∨ k = 5 ∨ k = 6 from by omega) with rfl | rfl | rfl | rfl | rfl | rfl
          all_goals
            go_wp2
            go_ret2
            exact ⟨ret_rv HZ.out (by omega), rfl⟩
        · have HF : Hid (v = _) := HG.out.trans (rv_found s k hks (by omega) HA.out (by omega) (fun e => by
            by_cases hk0 : k = 0
            · exact hk0
            · exact absurd ⟨e, by omega⟩ h0))
          rcases (show k = 0 ∨ k = 1 ∨ k = 2 ∨ k = 3 ∨ k = 4 ∨ k = 5 ∨ k = 6 from by omega) with hk0 | hk'
          · subst hk0
            clear HG HA HV h0
            go_wp2
            all_goals
              go_ret2
              exact ⟨ret_rv (HF.out.trans (by rw [HS.out]; simp <;> omega)) (by omega), rfl⟩
          · have hne : (s[k].toNat : Int) ≠ 0 := fun e => h0 ⟨by omega, by omega⟩
            clear HG HA HV h0
            rcases hk' with rfl | rfl | rfl | rfl | rfl | rfl
            all_goals
              go_wp2
              go_ret2
              exact ⟨ret_rv (HF.out.trans (by rw [HS.out]; simp)) (by omega), rfl⟩
    · go_wp2
      go_ret2
      have : k = 7 := by omega
      subst this
      exact ⟨ret_rv HG.out (by omega), rfl⟩
set_option maxHeartbeats 400000 in
set_option maxRecDepth 100000 in
theorem impl_rvS (s : ByteArray) (w : World) (hs : s.size ≤ maxLen) (h7 : (s.size : Int) ≤ 7) :
    Calls Tryd.prog 46 #[.string s] w fun e w' => e = .returned (.tuple #[.int .i64 (rv s.data.toList).1, .int .i64 ((rv s.data.toList).2 : Nat)]) ∧ w' = w := by
  unfold maxLen at hs
  obtain ⟨v, hv⟩ : ∃ v, v = rv s.data.toList := ⟨_, rfl⟩
  have HV : Hid (_ = _) := hv
  rw [← hv]
  clear hv
  go_enter Tryd.func46, Tryd.ntmps46
  go_wp2
  go_loop [4, 10] (fun n i => ∃ k : Nat, k ≤ s.size ∧ i = .int .i64 k ∧ n = .int .i64 (val (s.data.toList.take k)) ∧ Hid (∀ x ∈ s.data.toList.take k, 128 ≤ x.toNat) ∧ Hid (v = rvGo s.data.toList (7 - k) (k + 1))) (fun _ i => s.size - (intOf i).toNat)
  case atStart => exact ⟨0, by omega, rfl, rfl, show ∀ x ∈ _, _ by simp, HV⟩
  case round =>
    obtain ⟨k, hk, rfl, rfl, HA, HG⟩ := hrel
    by_cases hlt : k < s.size
    · have hks : k < s.size := by omega
      have hvb := val_le7 (s.data.toList.take k) (by have := List.length_take_le k s.data.toList; omega)
      have hb : (s[k].toNat : Int) < 256 := by have := s[k].toNat_lt; omega
      have HS : Hid (_ = _) := val_step s k hks
      generalize val (s.data.toList.take k) = x at hvb HS ⊢
      by_cases h1 : 128 ≤ (s[k].toNat : Int)
      · have R := rv_on s k hks (by omega) HA.out (by omega)
        have HG' : Hid (v = _) := HG.out.trans R.1
        have HA' : Hid (_) := R.2
        clear R HG HA HV
        rcases (show k = 0 ∨ k = 1 ∨ k = 2 ∨ k = 3 ∨ k = 4 ∨ k = 5 ∨ k = 6 from by omega) with rfl | rfl | rfl | rfl | rfl | rfl | rfl
        all_goals
          go_wp2
          go_round
          case rel => exact ⟨_, by omega, by go_num, by have := HS.out; simp at this ⊢; omega, HA', HG'⟩
          case measure => simp [intOf]; omega
      · by_cases h0 : s[k].toNat = 0 ∧ 0 < k
        · obtain ⟨h0, hk0⟩ := h0
          have HZ : Hid (v = _) := HG.out.trans (rv_zero s k hks (by omega) HA.out h0 hk0)
          have h00 : (s[k].toNat : Int) = 0 := by omega
          clear HG HA HV h0 h1 hb
          rcases (show k = 1 ∨ k = 2 ∨ k = 3 ∨ k = 4 ∨ k = 5 ∨ k = 6 from by omega) with rfl | rfl | rfl | rfl | rfl | rfl
          all_goals
            go_wp2
            go_ret2
            exact ⟨ret_rv HZ.out (by omega), rfl⟩
        · have HF : Hid (v = _) := HG.out.trans (rv_found s k hks (by omega) HA.out (by omega) (fun e => by
            by_cases hk0 : k = 0
            · exact hk0
            · exact absurd ⟨e, by omega⟩ h0))
          rcases (show k = 0 ∨ k = 1 ∨ k = 2 ∨ k = 3 ∨ k = 4 ∨ k = 5 ∨ k = 6 from by omega) with hk0 | hk'
          · subst hk0
            clear HG HA HV h0
            go_wp2
            all_goals
              go_ret2
              exact ⟨ret_rv (HF.out.trans (by rw [HS.out]; simp <;> omega)) (by omega), rfl⟩
          · have hne : (s[k].toNat : Int) ≠ 0 := fun e => h0 ⟨by omega, by omega⟩
            clear HG HA HV h0
            rcases hk' with rfl | rfl | rfl | rfl | rfl | rfl
            all_goals
              go_wp2
              go_ret2
              exact ⟨ret_rv (HF.out.trans (by rw [HS.out]; simp)) (by omega), rfl⟩
    · have HZ : Hid (v = _) := HG.out.trans (rvGo_short _ _ _ (by rw [len_toList]; omega))
      go_wp2
      go_ret2
      exact ⟨ret_rv HZ.out (by omega), rfl⟩
set_option maxRecDepth 100000 in
theorem impl_rv (s : ByteArray) (w : World) (hs : s.size ≤ maxLen) :
    Calls Tryd.prog 46 #[.string s] w fun e w' => e = .returned (.tuple #[.int .i64 (rv s.data.toList).1, .int .i64 ((rv s.data.toList).2 : Nat)]) ∧ w' = w := by
  by_cases h7 : 7 < (s.size : Int)
  · exact impl_rv7 s w hs h7
  · exact impl_rvS s w hs (by omega)
end Go.Proofs.YtdpjlfgfacjfeaaDoor
