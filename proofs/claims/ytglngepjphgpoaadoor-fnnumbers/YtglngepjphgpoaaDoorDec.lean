/- What spec.Dec and impl.Dec answer at every int: its decimal numeral; old memory stays. -/
import Derived.Test.YtglngepjphgpoaaDoorRows
import Derived.Test.YtglngepjphgpoaaDoorLaw
import Derived.Test.YtglngepjphgpoaaDoorDnum
import Derived.Test.YtglngepjphgpoaaDoorShelf
import Derived.WalkKit
import Derived.WalkLawsBesides
import Derived.WalkSpells
namespace Go.Proofs.YtglngepjphgpoaaDoor
open Go.RowKit
open Num
set_option linter.unusedVariables false
theorem ret_str {a b : ByteArray} (h : a = b) : Ending.returned (.string a) = .returned (.string b) := by rw [h]
theorem few (k m u : Nat) (h0 : 0 < m) (h : m * 10 ^ k ≤ u) (hu : u ≤ 9223372036854775808) : k ≤ 18 := by
  rcases Nat.lt_or_ge 18 k with hk | hk
  · have h1 : 10 ^ 19 ≤ 10 ^ k := Nat.pow_le_pow_right (by decide) hk
    have h2 : 10 ^ k ≤ m * 10 ^ k := Nat.le_mul_of_pos_left _ h0
    omega
  · exact hk
theorem fewer (k m u : Nat) (h : m * 10 ^ k ≤ u) : m / 10 * 10 ^ (k + 1) ≤ u := by
  have h1 : m / 10 * 10 ≤ m := Nat.div_mul_le_self m 10
  have h2 : m / 10 * 10 ^ (k + 1) = m / 10 * 10 * 10 ^ k := by rw [Nat.pow_succ, Nat.mul_assoc, Nat.mul_comm 10]
  rw [h2]
  exact Nat.le_trans (Nat.mul_le_mul_right _ h1) h
theorem dec_grow (u m : Nat) (s : ByteArray) (x : Int) (hm : 0 < m) (hx : x = 48 + (m : Int) % 10) (h : (⟨(ddz u).toArray⟩ : ByteArray) = ⟨(ddz m).toArray⟩ ++ s) : (⟨(ddz u).toArray⟩ : ByteArray) = ⟨(ddz (m / 10)).toArray⟩ ++ ((⟨#[UInt8.ofNat x.toNat]⟩ : ByteArray) ++ s) := by
  rw [h, ddz_step m hm]
  apply ByteArray.ext
  simp only [ByteArray.data_append]
  rw [show x.toNat = 48 + m % 10 from by omega]
  simp
theorem dec_end (u : Nat) (s : ByteArray) (h : (⟨(ddz u).toArray⟩ : ByteArray) = ⟨(ddz 0).toArray⟩ ++ s) : s = ⟨(ddz u).toArray⟩ := by
  rw [h]; apply ByteArray.ext; simp [ddz]
set_option maxHeartbeats 400000 in
theorem spec_dec_neg (u : Nat) (w : World) (h0 : 0 < u) (h1 : u ≤ 9223372036854775808) :
    Calls Tryd.prog 18 #[.int .i64 (-(u : Int))] w fun e w' => e = .returned (.string ⟨(45 :: ddz u).toArray⟩) ∧ Below w.heap.size w w' := by
  have hz : (-(u : Int) == 0) = false := by simp; omega
  have hn : -(u : Int) < 0 := by omega
  go_enter Tryd.func18, Tryd.ntmps18
  go_wp2
  go_loopw [0, 3] (fun n out wr => ∃ (m : Nat) (s : ByteArray), m ≤ u ∧ n = .int .i64 (-(m : Int)) ∧ out = .string s ∧ s.size ≤ 19 ∧ Hid (m * 10 ^ s.size ≤ u) ∧ Hid ((⟨(ddz u).toArray⟩ : ByteArray) = ⟨(ddz m).toArray⟩ ++ s) ∧ Below w.heap.size w wr) (fun n _ _ => (intOf n).natAbs)
  case atStart => exact ⟨u, ⟨#[]⟩, by omega, rfl, rfl, by simp [ByteArray.size], show u * 10 ^ 0 ≤ u by omega, by show _ = _; apply ByteArray.ext; simp, Below.refl _ _⟩
  case round =>
    obtain ⟨m, s, hm, rfl, rfl, hs, HP, HE, hb⟩ := hrel
    by_cases hlt : 0 < m
    · have hne : (-(m : Int) != 0) = true := by simp; omega
      have hs18 : s.size ≤ 18 := few s.size m u hlt HP.out (by omega)
      by_cases hd : 0 < (m : Int) % 10
      · skip
        have hcv := run_str_one (P := Tryd.prog) wr 22 9 5 Tryd.underlying22 Tryd.underlying5 Tryd.underlying9 (48 + (m : Int) % 10) (by omega) (by omega)
        have HG : Hid (_ = _) := dec_grow u m s (48 + (m : Int) % 10) hlt (by omega) HE.out
        generalize UInt8.ofNat (48 + (m : Int) % 10).toNat = c at hcv HG
        have HF : Hid (_ ≤ _) := fewer s.size m u HP.out
        go_wp2
        go_roundw
        case rel =>
          refine ⟨m / 10, _, by omega, by go_num, rfl, ?_, ?_, HG, hb.alloc hb.size _⟩
          · rw [ByteArray.size_append]; show 1 + s.size ≤ 19; omega
          · rw [ByteArray.size_append]; show _ / 10 * 10 ^ (1 + s.size) ≤ u; rw [Nat.add_comm]; exact HF.out
        case measure => simp [intOf]; omega
      · skip
        have hcv := run_str_one (P := Tryd.prog) wr 22 9 5 Tryd.underlying22 Tryd.underlying5 Tryd.underlying9 (48 + -((m : Int) % 10)) (by omega) (by omega)
        have HG : Hid (_ = _) := dec_grow u m s (48 + -((m : Int) % 10)) hlt (by omega) HE.out
        generalize UInt8.ofNat (48 + -((m : Int) % 10)).toNat = c at hcv HG
        have HF : Hid (_ ≤ _) := fewer s.size m u HP.out
        go_wp2
        go_roundw
        case rel =>
          refine ⟨m / 10, _, by omega, by go_num, rfl, ?_, ?_, HG, hb.alloc hb.size _⟩
          · rw [ByteArray.size_append]; show 1 + s.size ≤ 19; omega
          · rw [ByteArray.size_append]; show _ / 10 * 10 ^ (1 + s.size) ≤ u; rw [Nat.add_comm]; exact HF.out
        case measure => simp [intOf]; omega
    · obtain rfl : m = 0 := by omega
      have HF : Hid (_ = _) := dec_end u s HE.out
      have hz0 : (-((0 : Nat) : Int) != 0) = false := by simp
      go_wp2
      go_ret
      exact ⟨ret_str (by rw [HF.out]; apply ByteArray.ext; simp), hb⟩
set_option maxHeartbeats 400000 in
theorem spec_dec_pos (u : Nat) (w : World) (h0 : 0 < u) (h1 : u ≤ 9223372036854775807) :
    Calls Tryd.prog 18 #[.int .i64 ((u : Int))] w fun e w' => e = .returned (.string ⟨(ddz u).toArray⟩) ∧ Below w.heap.size w w' := by
  have hz : ((u : Int) == 0) = false := by simp; omega
  have hn : ¬ (u : Int) < 0 := by omega
  go_enter Tryd.func18, Tryd.ntmps18
  go_wp2
  go_loopw [0, 3] (fun n out wr => ∃ (m : Nat) (s : ByteArray), m ≤ u ∧ n = .int .i64 ((m : Int)) ∧ out = .string s ∧ s.size ≤ 19 ∧ Hid (m * 10 ^ s.size ≤ u) ∧ Hid ((⟨(ddz u).toArray⟩ : ByteArray) = ⟨(ddz m).toArray⟩ ++ s) ∧ Below w.heap.size w wr) (fun n _ _ => (intOf n).natAbs)
  case atStart => exact ⟨u, ⟨#[]⟩, by omega, rfl, rfl, by simp [ByteArray.size], show u * 10 ^ 0 ≤ u by omega, by show _ = _; apply ByteArray.ext; simp, Below.refl _ _⟩
  case round =>
    obtain ⟨m, s, hm, rfl, rfl, hs, HP, HE, hb⟩ := hrel
    by_cases hlt : 0 < m
    · have hne : ((m : Int) != 0) = true := by simp; omega
      have hs18 : s.size ≤ 18 := few s.size m u hlt HP.out (by omega)
      have hcv := run_str_one (P := Tryd.prog) wr 22 9 5 Tryd.underlying22 Tryd.underlying5 Tryd.underlying9 (48 + (m : Int) % 10) (by omega) (by omega)
      have HG : Hid (_ = _) := dec_grow u m s (48 + (m : Int) % 10) hlt (by omega) HE.out
      generalize UInt8.ofNat (48 + (m : Int) % 10).toNat = c at hcv HG
      have HF : Hid (_ ≤ _) := fewer s.size m u HP.out
      go_wp2
      go_roundw
      case rel =>
        refine ⟨m / 10, _, by omega, by go_num, rfl, ?_, ?_, HG, hb.alloc hb.size _⟩
        · rw [ByteArray.size_append]; show 1 + s.size ≤ 19; omega
        · rw [ByteArray.size_append]; show _ / 10 * 10 ^ (1 + s.size) ≤ u; rw [Nat.add_comm]; exact HF.out
      case measure => simp [intOf]; omega
    · obtain rfl : m = 0 := by omega
      have HF : Hid (_ = _) := dec_end u s HE.out
      have hz0 : (((0 : Nat) : Int) != 0) = false := by simp
      go_wp2
      go_ret
      exact ⟨ret_str (by rw [HF.out]), hb⟩
set_option maxHeartbeats 400000 in
theorem spec_dec_zero (w : World) :
    Calls Tryd.prog 18 #[.int .i64 0] w fun e w' => e = .returned (.string ⟨#[48]⟩) ∧ Below w.heap.size w w' := by
  go_enter Tryd.func18, Tryd.ntmps18
  go_wp2
  go_ret
  exact ⟨rfl, Below.refl _ _⟩
theorem spec_dec (n : Int) (w : World) (h0 : -9223372036854775808 ≤ n) (h1 : n ≤ 9223372036854775807) :
    Calls Tryd.prog 18 #[.int .i64 n] w fun e w' => e = .returned (.string ⟨(Lib.itoa n).toArray⟩) ∧ Below w.heap.size w w' := by
  rcases (show n < 0 ∨ n = 0 ∨ 0 < n from by omega) with h | h | h
  · obtain ⟨u, rfl⟩ : ∃ u : Nat, n = -(u : Int) := ⟨n.natAbs, by omega⟩
    have e : Lib.itoa (-(u : Int)) = 45 :: ddz u := by
      unfold Lib.itoa; rw [if_pos h, ddz_pos u (by omega), show (-(u : Int)).natAbs = u from by omega]
    rw [e]
    exact spec_dec_neg u w (by omega) (by omega)
  · subst h
    have e : Lib.itoa 0 = [48] := by unfold Lib.itoa; rw [if_neg (by omega)]; exact Lib.decDigits_one (by decide)
    rw [e]
    exact spec_dec_zero w
  · obtain ⟨u, rfl⟩ : ∃ u : Nat, n = (u : Int) := ⟨n.natAbs, by omega⟩
    have e : Lib.itoa (u : Int) = ddz u := by
      unfold Lib.itoa; rw [if_neg (by omega), ddz_pos u (by omega), show ((u : Int)).toNat = u from by omega]
    rw [e]
    exact spec_dec_pos u w (by omega) (by omega)
theorem below_grow (w : World) (k : Nat) (os : Array Obj) : Below w.heap.size w (Sort.grow (w.drewN k) os) := by
  refine ⟨rfl, rfl, rfl, ?_, fun i hi => ?_⟩
  · show w.heap.size ≤ (w.heap ++ os).size
    simp
  · show (w.heap ++ os)[i]? = _
    rw [Array.getElem?_append_left hi]
/-- The table that strconv reads. -/
def Tab (w : World) : Prop := Lib.TabIs Tryd.prog w "internal/strconv.uint64pow10" .u64 Lib.pow10Tab
set_option maxHeartbeats 400000 in
theorem impl_dec (n : Int) (w : World) (h0 : -9223372036854775808 ≤ n) (h1 : n ≤ 9223372036854775807) (ht : Tab w) :
    Calls Tryd.prog 14 #[.int .i64 n] w fun e w' => e = .returned (.string ⟨(Lib.itoa n).toArray⟩) ∧ Below w.heap.size w w' := by
  go_enter Tryd.func14, Tryd.ntmps14
  go_wp2_with fail
  refine (Tryd.itoa_any n h0 h1 _ ht).mono ?_
  rintro e w2 ⟨rfl, k, os, rfl⟩
  go_wp2
  go_ret
  exact ⟨rfl, below_grow w k os⟩
end Go.Proofs.YtglngepjphgpoaaDoor
