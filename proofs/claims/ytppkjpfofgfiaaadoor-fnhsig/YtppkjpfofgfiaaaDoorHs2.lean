/- What spec.HsLink, HsSecret and l5Go answer; old memory stays. Conditions: texts of at most 2 to the 40 bytes, nearly. -/
import Derived.Test.YtppkjpfofgfiaaaDoorHs1
import Derived.Test.YtppkjpfofgfiaaaDoorSho
namespace Go.Proofs.YtppkjpfofgfiaaaDoor
open Go.RowKit
open Num
set_option linter.unusedVariables false
theorem size_three (a b c : UInt8) : (⟨#[a, b, c]⟩ : ByteArray).size = 3 := rfl
theorem below_al {w w1 : World} {o : Obj} (hb : Below (w.alloc o).heap.size (w.alloc o) w1) : Below w.heap.size w w1 :=
  have h : Below w.heap.size w (w.alloc o) := (Below.refl _ _).alloc (Nat.le_refl _) o
  h.trans (hb.mono h.size)
theorem byte_wrap (c : Nat) (h : c < 256) : ((UInt8.ofNat c).toNat : Int) = (c : Int) := by
  have : (UInt8.ofNat c).toNat = c := by simp; omega
  rw [this]
set_option maxHeartbeats 400000 in
theorem spec_link (c s : Nat) (hc : c < 11) (hs1 : 1 ≤ s) (hs3 : s ≤ 3) (x : ByteArray) (w : World) (hx : x.size ≤ 1099511627000) :
    Calls Tryd.prog 17 #[.int .i64 (c : Int), .int .i64 (s : Int), .string x] w fun e w' => e = .returned (.string (hLink c s x)) ∧ Below w.heap.size w w' := by
  have HS : Hid ((⟨#[2, UInt8.ofNat c, UInt8.ofNat s]⟩ ++ x : ByteArray).size ≤ 1099511627776) := by
    show _ ≤ _
    rw [ByteArray.size_append, size_three]; omega
  have hb' : ¬ 9223372036854775807 < (⟨#[2, UInt8.ofNat c, UInt8.ofNat s]⟩ : ByteArray).size + x.size := by
    rw [size_three]; omega
  have hC : chainIs (c : Int) = true := by simp [chainIs]; omega
  have hI : inIs (s : Int) 1 3 = true := by simp [inIs]; omega
  have kC := fun W => spec_chain (c : Int) (by omega) (by omega) W
  have kI := fun W => spec_in (s : Int) 1 3 (by omega) (by omega) (by omega) (by omega) (by omega) (by omega) W
  rw [hC] at kC
  rw [hI] at kI
  have wc : IntKind.u8.wrap (c : Int) = (c : Int) := by simp [IntKind.wrap, IntKind.bits, IntKind.signed]; omega
  have ws : IntKind.u8.wrap (s : Int) = (s : Int) := by simp [IntKind.wrap, IntKind.bits, IntKind.signed]; omega
  have ec : (c : Int) % 256 = (c : Int) := by omega
  have es : (s : Int) % 256 = (s : Int) := by omega
  have hcv := fun W : World => run_str_three (P := Tryd.prog) W 22 9 5 Tryd.underlying22 Tryd.underlying5 Tryd.underlying9 2 (UInt8.ofNat c) (UInt8.ofNat s) 2 (c : Int) (s : Int) rfl (byte_wrap c (by omega)).symm (byte_wrap s (by omega)).symm
  clear hC hI
  go_enter Tryd.func17, Tryd.ntmps17
  go_wp2_with fail
  refine (kC w).mono ?_
  rintro e w1 ⟨rfl, rfl⟩
  go_wp2_with fail
  refine (kI _).mono ?_
  rintro e w1 ⟨rfl, rfl⟩
  go_wp2_with fail
  refine (spec_short _ _ HS.out).mono ?_
  rintro e w1 ⟨rfl, hb⟩
  go_wp2
  go_ret
  exact ⟨rfl, below_al hb⟩
theorem chain_nat {c : Int} (h : chainIs c = true) : ∃ k : Nat, c = (k : Int) ∧ k < 11 := by
  simp [chainIs] at h
  exact ⟨c.toNat, by omega, by omega⟩
theorem leaf_nat {c : Int} (h : leafIs c = true) : ∃ k : Nat, c = (k : Int) ∧ k < 4 := by
  simp [leafIs] at h
  exact ⟨c.toNat, by omega, by omega⟩
theorem in_nat {c : Int} (h : inIs c 1 3 = true) : ∃ k : Nat, c = (k : Int) ∧ 1 ≤ k ∧ k ≤ 3 := by
  simp [inIs] at h
  exact ⟨c.toNat, by omega, by omega, by omega⟩
theorem linkI_of (c s : Nat) (hc : c < 11) (hs1 : 1 ≤ s) (hs3 : s ≤ 3) (x : ByteArray) : linkI c s x = hLink c s x := by
  unfold linkI; rw [if_pos (by omega), Int.toNat_natCast, Int.toNat_natCast]
theorem linkI_no1 (c s : Int) (h : chainIs c = false) (x : ByteArray) : linkI c s x = ⟨#[]⟩ := by
  simp [chainIs] at h
  unfold linkI; rw [if_neg (by omega)]
theorem linkI_no2 (c s : Int) (h : inIs s 1 3 = false) (x : ByteArray) : linkI c s x = ⟨#[]⟩ := by
  simp [inIs] at h
  unfold linkI; rw [if_neg (by omega)]
set_option maxHeartbeats 400000 in
theorem spec_linkI (c s : Int) (hc0 : -9223372036854775808 ≤ c) (hc1 : c ≤ 9223372036854775807) (hs0 : -9223372036854775808 ≤ s) (hs1 : s ≤ 9223372036854775807) (x : ByteArray) (w : World) (hx : x.size ≤ 1099511627000) :
    Calls Tryd.prog 17 #[.int .i64 c, .int .i64 s, .string x] w fun e w' => e = .returned (.string (linkI c s x)) ∧ Below w.heap.size w w' := by
  have kC := fun W => spec_chain c hc0 hc1 W
  have kI := fun W => spec_in s 1 3 hs0 hs1 (by omega) (by omega) (by omega) (by omega) W
  rcases hC : chainIs c with _ | _
  · have HE : Hid (linkI c s x = ⟨#[]⟩) := linkI_no1 c s hC x
    rw [hC] at kC
    clear hC
    go_enter Tryd.func17, Tryd.ntmps17
    go_wp2_with fail
    refine (kC w).mono ?_
    rintro e w1 ⟨rfl, rfl⟩
    go_wp2
    go_ret
    exact ⟨by rw [HE.out]; rfl, Below.refl _ _⟩
  · rcases hI : inIs s 1 3 with _ | _
    · have HE : Hid (linkI c s x = ⟨#[]⟩) := linkI_no2 c s hI x
      rw [hC] at kC
      rw [hI] at kI
      clear hC hI
      go_enter Tryd.func17, Tryd.ntmps17
      go_wp2_with fail
      refine (kC w).mono ?_
      rintro e w1 ⟨rfl, rfl⟩
      go_wp2_with fail
      refine (kI _).mono ?_
      rintro e w1 ⟨rfl, rfl⟩
      go_wp2
      go_ret
      exact ⟨by rw [HE.out]; rfl, Below.refl _ _⟩
    · obtain ⟨k, rfl, hk⟩ := chain_nat hC
      obtain ⟨t, rfl, ht1, ht3⟩ := in_nat hI
      rw [linkI_of k t hk ht1 ht3]
      exact spec_link k t hk ht1 ht3 x w hx
set_option maxHeartbeats 400000 in
theorem spec_secret (l c : Nat) (hl : l < 4) (hc : c < 11) (x : ByteArray) (w : World) (hx : x.size ≤ 1099511627000) :
    Calls Tryd.prog 19 #[.string x, .int .i64 (l : Int), .int .i64 (c : Int)] w fun e w' => e = .returned (.string (hSec x l c)) ∧ Below w.heap.size w w' := by
  have HS : Hid ((⟨#[3, UInt8.ofNat l, UInt8.ofNat c]⟩ ++ x : ByteArray).size ≤ 1099511627776) := by
    show _ ≤ _
    rw [ByteArray.size_append, size_three]; omega
  have hb' : ¬ 9223372036854775807 < (⟨#[3, UInt8.ofNat l, UInt8.ofNat c]⟩ : ByteArray).size + x.size := by
    rw [size_three]; omega
  have hC : chainIs (c : Int) = true := by simp [chainIs]; omega
  have hI : leafIs (l : Int) = true := by simp [leafIs]; omega
  have kC := fun W => spec_chain (c : Int) (by omega) (by omega) W
  have kI := fun W => spec_leafIs (l : Int) (by omega) (by omega) W
  rw [hC] at kC
  rw [hI] at kI
  have wc : IntKind.u8.wrap (c : Int) = (c : Int) := by simp [IntKind.wrap, IntKind.bits, IntKind.signed]; omega
  have ws : IntKind.u8.wrap (l : Int) = (l : Int) := by simp [IntKind.wrap, IntKind.bits, IntKind.signed]; omega
  have ec : (c : Int) % 256 = (c : Int) := by omega
  have es : (l : Int) % 256 = (l : Int) := by omega
  have hcv := fun W : World => run_str_three (P := Tryd.prog) W 22 9 5 Tryd.underlying22 Tryd.underlying5 Tryd.underlying9 3 (UInt8.ofNat l) (UInt8.ofNat c) 3 (l : Int) (c : Int) rfl (byte_wrap l (by omega)).symm (byte_wrap c (by omega)).symm
  clear hC hI
  go_enter Tryd.func19, Tryd.ntmps19
  go_wp2_with fail
  refine (kI w).mono ?_
  rintro e w1 ⟨rfl, rfl⟩
  go_wp2_with fail
  refine (kC _).mono ?_
  rintro e w1 ⟨rfl, rfl⟩
  go_wp2_with fail
  refine (spec_short _ _ HS.out).mono ?_
  rintro e w1 ⟨rfl, hb⟩
  go_wp2
  go_ret
  exact ⟨rfl, below_al hb⟩
theorem secI_of (l c : Nat) (hl : l < 4) (hc : c < 11) (x : ByteArray) : secI x l c = hSec x l c := by
  unfold secI; rw [if_pos (by omega), Int.toNat_natCast, Int.toNat_natCast]
theorem secI_no1 (l c : Int) (h : leafIs l = false) (x : ByteArray) : secI x l c = ⟨#[]⟩ := by
  simp [leafIs] at h
  unfold secI; rw [if_neg (by omega)]
theorem secI_no2 (l c : Int) (h : chainIs c = false) (x : ByteArray) : secI x l c = ⟨#[]⟩ := by
  simp [chainIs] at h
  unfold secI; rw [if_neg (by omega)]
set_option maxHeartbeats 400000 in
theorem spec_secretI (l c : Int) (hl0 : -9223372036854775808 ≤ l) (hl1 : l ≤ 9223372036854775807) (hc0 : -9223372036854775808 ≤ c) (hc1 : c ≤ 9223372036854775807) (x : ByteArray) (w : World) (hx : x.size ≤ 1099511627000) :
    Calls Tryd.prog 19 #[.string x, .int .i64 l, .int .i64 c] w fun e w' => e = .returned (.string (secI x l c)) ∧ Below w.heap.size w w' := by
  have kI := fun W => spec_leafIs l hl0 hl1 W
  have kC := fun W => spec_chain c hc0 hc1 W
  rcases hI : leafIs l with _ | _
  · have HE : Hid (secI x l c = ⟨#[]⟩) := secI_no1 l c hI x
    rw [hI] at kI
    clear hI
    go_enter Tryd.func19, Tryd.ntmps19
    go_wp2_with fail
    refine (kI w).mono ?_
    rintro e w1 ⟨rfl, rfl⟩
    go_wp2
    go_ret
    exact ⟨by rw [HE.out]; rfl, Below.refl _ _⟩
  · rcases hC : chainIs c with _ | _
    · have HE : Hid (secI x l c = ⟨#[]⟩) := secI_no2 l c hC x
      rw [hC] at kC
      rw [hI] at kI
      clear hC hI
      go_enter Tryd.func19, Tryd.ntmps19
      go_wp2_with fail
      refine (kI w).mono ?_
      rintro e w1 ⟨rfl, rfl⟩
      go_wp2_with fail
      refine (kC _).mono ?_
      rintro e w1 ⟨rfl, rfl⟩
      go_wp2
      go_ret
      exact ⟨by rw [HE.out]; rfl, Below.refl _ _⟩
    · obtain ⟨k, rfl, hk⟩ := chain_nat hC
      obtain ⟨t, rfl, ht⟩ := leaf_nat hI
      rw [secI_of t k ht hk]
      exact spec_secret t k ht hk x w hx
set_option maxHeartbeats 800000 in
theorem spec_go (c s t : Nat) (hc : c < 11) (hst : s ≤ t) (ht : t ≤ 3) (x : ByteArray) (w : World) (hx : x.size = 8) :
    Calls Tryd.prog 37 #[.int .i64 (c : Int), .int .i64 ((s : Int) + 1), .int .i64 (t : Int), .string x] w fun e w' => e = .returned (.string (hUp c s (t - s) x)) ∧ Below w.heap.size w w' := by
  have HX : Hid (x.size = 8) := hx
  clear hx
  go_enter Tryd.func37, Tryd.ntmps37
  go_wp2
  go_loopw [3, 9] (fun xv sv wr => ∃ (k : Nat) (y : ByteArray), sv = .int .i64 ((s : Int) + 1 + k) ∧ xv = .string y ∧ s + k ≤ t ∧ y.size ≤ 8 ∧ Hid (y = hUp c s k x) ∧ Below w.heap.size w wr) (fun _ sv _ => t + 1 - (intOf sv).toNat)
  case atStart => exact ⟨0, x, by simp, rfl, by omega, by rw [HX.out]; omega, rfl, Below.refl _ _⟩
  case round =>
    obtain ⟨k, y, rfl, rfl, hk, hy, HY, hb⟩ := hrel
    by_cases hlt : s + k < t
    · have hlt' : (s : Int) + 1 + (k : Int) ≤ (t : Int) := by omega
      have kL := fun W => spec_link c (s + k + 1) hc (by omega) (by omega) y W (by omega)
      rw [show ((s + k + 1 : Nat) : Int) = (s : Int) + 1 + (k : Int) from by omega] at kL
      have HN : Hid (hLink c (s + k + 1) y = hUp c s (k + 1) x) := by show _ = _; rw [HY.out]; rfl
      have h8 : (hLink c (s + k + 1) y).size ≤ 8 := Nat.le_of_eq (size_shortB _)
      go_wp2_with fail
      refine (kL wr).mono ?_
      rintro e w1 ⟨rfl, hb1⟩
      go_wp2
      go_round
      case rel => exact ⟨k + 1, _, by go_num, rfl, by omega, h8, HN, hb.trans (hb1.mono hb.size)⟩
      case measure => simp [intOf]; omega
    · have hlt' : ¬ (s : Int) + 1 + (k : Int) ≤ (t : Int) := by omega
      have HN : Hid (hUp c s (t - s) x = y) := by show _ = _; rw [HY.out, show t - s = k from by omega]
      go_wp2
      go_ret
      exact ⟨by rw [HN.out]; rfl, hb⟩
end Go.Proofs.YtppkjpfofgfiaaaDoor
