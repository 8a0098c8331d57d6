/- What spec.Crc answers at every string: the sum of its bytes; memory stays. -/
import Derived.Test.YtdpjlfgfacjfeaaDoorProg
import Derived.Test.YtdpjlfgfacjfeaaDoorBits
import Derived.Test.YtdpjlfgfacjfeaaDoorCnum
import Derived.WalkKit
import Derived.WalkLawsBesides
import Derived.WalkSpells
namespace Go.Proofs.YtdpjlfgfacjfeaaDoor
open Go.RowKit
open Num
set_option linter.unusedVariables false
set_option maxRecDepth 100000 in
theorem take_snoc' (s : ByteArray) (k : Nat) (h : k < s.size) : s.data.toList.take (k + 1) = s.data.toList.take k ++ [s[k]] := by
  have h' : k < s.data.toList.length := by rw [Array.length_toList]; exact h
  rw [List.take_add_one, List.getElem?_eq_getElem h']
  simp; rfl
/-- The sum of a string. -/
def crcN (s : ByteArray) : Nat := 4294967295 - crl 4294967295 s.data.toList
set_option maxRecDepth 100000 in
theorem crl_take (s : ByteArray) (k : Nat) (h : k < s.size) (c : Nat) : crl c (s.data.toList.take (k + 1)) = csn 8 (crl c (s.data.toList.take k) ^^^ s[k].toNat) := by
  rw [take_snoc' s k h, crl_snoc]
set_option maxRecDepth 100000 in
theorem cs_odd {c : Nat} (h : (c : Int) % 2 = 1) : cs c = c / 2 ^^^ 2197175160 := by
  unfold cs; rw [if_pos (by omega)]
set_option maxRecDepth 100000 in
theorem cs_even {c : Nat} (h : ¬ (c : Int) % 2 = 1) : cs c = c / 2 := by
  unfold cs; rw [if_neg (by omega)]
set_option maxHeartbeats 400000 in
set_option maxRecDepth 100000 in
theorem spec_crc (s : ByteArray) (w : World) (hs : s.size ≤ maxLen) :
    Calls Tryd.prog 31 #[.string s] w fun e w' => e = .returned (.int .i64 (crcN s : Nat)) ∧ w' = w := by
  unfold maxLen at hs
  go_enter Tryd.func31, Tryd.ntmps31
  go_wp2
  go_loop [3, 4] (fun c i => ∃ k c' : Nat, k ≤ s.size ∧ i = .int .i64 k ∧ c = .int .i64 c' ∧ c' < 4294967296 ∧ Hid (c' = crl 4294967295 (s.data.toList.take k))) (fun _ i => s.size - (intOf i).toNat)
  case atStart => exact ⟨0, 4294967295, by omega, rfl, rfl, by omega, rfl⟩
  case round =>
    obtain ⟨k, c, hk, rfl, rfl, hc, HC⟩ := hrel
    by_cases hlt : k < s.size
    · have HX : Hid (bits .xor .i64 (c : Int) (s[k].toNat : Int) = ((c ^^^ s[k].toNat : Nat) : Int)) := i64_xor c _ (by omega) (by have := s[k].toNat_lt; omega)
      have hx : c ^^^ s[k].toNat < 4294967296 := byte_lt hc s[k]
      have hb : (s[k].toNat : Int) < 256 := by have := s[k].toNat_lt; omega
      have HS : Hid (_ = _) := crl_take s k hlt 4294967295
      go_wp2
      go_loop [3, 5] (fun d j => ∃ n d' : Nat, n ≤ 8 ∧ j = .int .i64 n ∧ d = .int .i64 d' ∧ d' < 4294967296 ∧ Hid (d' = csn n (c ^^^ s[k].toNat))) (fun _ j => 8 - (intOf j).toNat)
      case atStart => exact ⟨0, _, by omega, rfl, by rw [HX.out], hx, rfl⟩
      case round =>
        clear hx HX hb
        obtain ⟨n, d, hn, rfl, rfl, hd, HD⟩ := hrel
        by_cases hn8 : n < 8
        · by_cases ho : (d : Int) % 2 = 1
          · have HE : Hid (bits .xor .i64 ((d : Int) / 2) 2197175160 = ((d / 2 ^^^ 2197175160 : Nat) : Int)) := i64_xor (d / 2) 2197175160 (by omega) (by omega)
            have HO : Hid (_ = _) := cs_odd ho
            go_wp2
            go_round
            case rel => exact ⟨n + 1, cs d, by omega, by go_num, by rw [HE.out, HO.out], cs_lt hd, (by rw [csn_succ, ← HD.out] : cs d = csn (n + 1) (c ^^^ s[k].toNat))⟩
            case measure => simp [intOf]; omega
          · have HO : Hid (_ = _) := cs_even ho
            go_wp2
            go_round
            case rel => exact ⟨n + 1, cs d, by omega, by go_num, by rw [HO.out]; go_num, cs_lt hd, (by rw [csn_succ, ← HD.out] : cs d = csn (n + 1) (c ^^^ s[k].toNat))⟩
            case measure => simp [intOf]; omega
        · obtain rfl : n = 8 := by omega
          go_wp2
          go_round
          case rel => exact ⟨k + 1, d, by omega, by go_num, rfl, hd, (by rw [HS.out, ← HC.out, HD.out] : d = _)⟩
          case measure => simp [intOf]; omega
    · obtain rfl : k = s.size := by omega
      have HF : Hid (((4294967295 : Int) - (c : Int)) = ((crcN s : Nat) : Int)) := by
        have h := HC.out
        rw [List.take_of_length_le (by rw [Array.length_toList]; exact Nat.le_refl _)] at h
        show _ = _
        unfold crcN; rw [← h]; omega
      go_wp2
      go_ret
      exact ⟨by rw [HF.out]; rfl, rfl⟩
end Go.Proofs.YtdpjlfgfacjfeaaDoor
