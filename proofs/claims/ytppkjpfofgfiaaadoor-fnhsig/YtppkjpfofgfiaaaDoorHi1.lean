/- What impl.HsLink, HsSecret, the method link and hsWalk answer; old memory stays. Conditions: texts of at most 2 to the 40 bytes, nearly; the table. -/
import Derived.Test.YtppkjpfofgfiaaaDoorHs2
import Derived.Test.YtppkjpfofgfiaaaDoorIm6
namespace Go.Proofs.YtppkjpfofgfiaaaDoor
open Go.RowKit
open Num
set_option linter.unusedVariables false
set_option maxHeartbeats 400000 in
theorem impl_method (c s : Nat) (hc : c < 11) (hs3 : s ≤ 3) (x : ByteArray) (w : World) (hx : x.size ≤ 1099511627000) (hT : Tab w) :
    Calls Tryd.prog 29 #[.int .i64 (c : Int), .int .i64 (s : Int), .string x] w fun e w' => e = .returned (.string (hLink c s x)) ∧ Below w.heap.size w w' := by
  have HS : Hid ((⟨#[2, UInt8.ofNat c, UInt8.ofNat s]⟩ ++ x : ByteArray).size ≤ 1099511627776) := by
    show _ ≤ _
    rw [ByteArray.size_append, size_three]; omega
  have hb' : ¬ 9223372036854775807 < (⟨#[2, UInt8.ofNat c, UInt8.ofNat s]⟩ : ByteArray).size + x.size := by
    rw [size_three]; omega
  have wc : IntKind.u8.wrap (c : Int) = (c : Int) := by simp [IntKind.wrap, IntKind.bits, IntKind.signed]; omega
  have ws : IntKind.u8.wrap (s : Int) = (s : Int) := by simp [IntKind.wrap, IntKind.bits, IntKind.signed]; omega
  have ec : (c : Int) % 256 = (c : Int) := by omega
  have es : (s : Int) % 256 = (s : Int) := by omega
  have hcv := fun W : World => run_str_three (P := Tryd.prog) W 22 9 5 Tryd.underlying22 Tryd.underlying5 Tryd.underlying9 2 (UInt8.ofNat c) (UInt8.ofNat s) 2 (c : Int) (s : Int) rfl (byte_wrap c (by omega)).symm (byte_wrap s (by omega)).symm
  have HT : Hid (Tab w) := hT
  clear hT
  go_enter Tryd.func29, Tryd.ntmps29
  go_wp2_with fail
  refine (impl_short _ _ HS.out (HT.out.below ((Below.refl _ _).alloc (Nat.le_refl _) _) HT.out.pos)).mono ?_
  rintro e w1 ⟨rfl, hb⟩
  go_wp2
  go_ret
  exact ⟨rfl, below_al hb⟩
set_option maxHeartbeats 400000 in
theorem impl_linkI (c s : Int) (hc0 : -9223372036854775808 ≤ c) (hc1 : c ≤ 9223372036854775807) (hs0 : -9223372036854775808 ≤ s) (hs1 : s ≤ 9223372036854775807) (x : ByteArray) (w : World) (hx : x.size ≤ 1099511627000) (hT : Tab w) :
    Calls Tryd.prog 18 #[.int .i64 c, .int .i64 s, .string x] w fun e w' => e = .returned (.string (linkI c s x)) ∧ Below w.heap.size w w' := by
  have kC := fun W => impl_chain c hc0 hc1 W
  have HT : Hid (Tab w) := hT
  clear hT
  rcases hC : chainIs c with _ | _
  · have HE : Hid (linkI c s x = ⟨#[]⟩) := linkI_no1 c s hC x
    rw [hC] at kC
    clear hC
    go_enter Tryd.func18, Tryd.ntmps18
    go_wp2_with fail
    refine (kC w).mono ?_
    rintro e w1 ⟨rfl, rfl⟩
    go_wp2
    go_ret
    exact ⟨by rw [HE.out]; rfl, Below.refl _ _⟩
  · rw [hC] at kC
    by_cases h1 : s < 1
    · have HE : Hid (linkI c s x = ⟨#[]⟩) := linkI_no2 c s (by simp [inIs]; omega) x
      clear hC
      go_enter Tryd.func18, Tryd.ntmps18
      go_wp2_with fail
      refine (kC w).mono ?_
      rintro e w1 ⟨rfl, rfl⟩
      go_wp2
      go_ret
      exact ⟨by rw [HE.out]; rfl, Below.refl _ _⟩
    · by_cases h3 : 3 < s
      · have HE : Hid (linkI c s x = ⟨#[]⟩) := linkI_no2 c s (by simp [inIs]; omega) x
        clear hC
        go_enter Tryd.func18, Tryd.ntmps18
        go_wp2_with fail
        refine (kC w).mono ?_
        rintro e w1 ⟨rfl, rfl⟩
        go_wp2
        go_ret
        exact ⟨by rw [HE.out]; rfl, Below.refl _ _⟩
      · obtain ⟨k, rfl, hk⟩ := chain_nat hC
        obtain ⟨t, rfl⟩ : ∃ t : Nat, s = (t : Int) := ⟨s.toNat, by omega⟩
        have HE : Hid (linkI k t x = hLink k t x) := linkI_of k t hk (by omega) (by omega) x
        clear hC
        go_enter Tryd.func18, Tryd.ntmps18
        go_wp2_with fail
        refine (kC w).mono ?_
        rintro e w1 ⟨rfl, rfl⟩
        go_wp2_with fail
        refine (impl_method k t hk (by omega) x w1 hx HT.out).mono ?_
        rintro e w2 ⟨rfl, hb⟩
        go_wp2
        go_ret
        exact ⟨by rw [HE.out]; rfl, hb⟩
set_option maxHeartbeats 400000 in
theorem impl_secret (l c : Nat) (hl : l < 4) (hc : c < 11) (x : ByteArray) (w : World) (hx : x.size ≤ 1099511627000) (hT : Tab w) :
    Calls Tryd.prog 20 #[.string x, .int .i64 (l : Int), .int .i64 (c : Int)] w fun e w' => e = .returned (.string (hSec x l c)) ∧ Below w.heap.size w w' := by
  have HS : Hid ((⟨#[3, UInt8.ofNat l, UInt8.ofNat c]⟩ ++ x : ByteArray).size ≤ 1099511627776) := by
    show _ ≤ _
    rw [ByteArray.size_append, size_three]; omega
  have hb' : ¬ 9223372036854775807 < (⟨#[3, UInt8.ofNat l, UInt8.ofNat c]⟩ : ByteArray).size + x.size := by
    rw [size_three]; omega
  have hC : chainIs (c : Int) = true := by simp [chainIs]; omega
  have hI : leafIs (l : Int) = true := by simp [leafIs]; omega
  have kC := fun W => impl_chain (c : Int) (by omega) (by omega) W
  have kI := fun W => impl_leafIs (l : Int) (by omega) (by omega) W
  rw [hC] at kC
  rw [hI] at kI
  have wc : IntKind.u8.wrap (c : Int) = (c : Int) := by simp [IntKind.wrap, IntKind.bits, IntKind.signed]; omega
  have ws : IntKind.u8.wrap (l : Int) = (l : Int) := by simp [IntKind.wrap, IntKind.bits, IntKind.signed]; omega
  have ec : (c : Int) % 256 = (c : Int) := by omega
  have es : (l : Int) % 256 = (l : Int) := by omega
  have hcv := fun W : World => run_str_three (P := Tryd.prog) W 22 9 5 Tryd.underlying22 Tryd.underlying5 Tryd.underlying9 3 (UInt8.ofNat l) (UInt8.ofNat c) 3 (l : Int) (c : Int) rfl (byte_wrap l (by omega)).symm (byte_wrap c (by omega)).symm
  have HT : Hid (Tab w) := hT
  clear hC hI hT
  go_enter Tryd.func20, Tryd.ntmps20
  go_wp2_with fail
  refine (kI w).mono ?_
  rintro e w1 ⟨rfl, rfl⟩
  go_wp2_with fail
  refine (kC _).mono ?_
  rintro e w1 ⟨rfl, rfl⟩
  go_wp2_with fail
  refine (impl_short _ _ HS.out (HT.out.below ((Below.refl _ _).alloc (Nat.le_refl _) _) HT.out.pos)).mono ?_
  rintro e w1 ⟨rfl, hb⟩
  go_wp2
  go_ret
  exact ⟨rfl, below_al hb⟩
set_option maxHeartbeats 400000 in
theorem impl_secretI (l c : Int) (hl0 : -9223372036854775808 ≤ l) (hl1 : l ≤ 9223372036854775807) (hc0 : -9223372036854775808 ≤ c) (hc1 : c ≤ 9223372036854775807) (x : ByteArray) (w : World) (hx : x.size ≤ 1099511627000) (hT : Tab w) :
    Calls Tryd.prog 20 #[.string x, .int .i64 l, .int .i64 c] w fun e w' => e = .returned (.string (secI x l c)) ∧ Below w.heap.size w w' := by
  have kI := fun W => impl_leafIs l hl0 hl1 W
  have kC := fun W => impl_chain c hc0 hc1 W
  rcases hI : leafIs l with _ | _
  · have HE : Hid (secI x l c = ⟨#[]⟩) := secI_no1 l c hI x
    rw [hI] at kI
    clear hI
    go_enter Tryd.func20, Tryd.ntmps20
    go_wp2_with fail
    refine (kI w).mono ?_
    rintro e w1 ⟨rfl, rfl⟩
    go_wp2
    go_ret
    exact ⟨by rw [HE.out]; rfl, Below.refl _ _⟩
  · rcases hC : chainIs c with _ | _
    · have HE : Hid (secI x l c = ⟨#[]⟩) := secI_no2 l c hC x
      rw [hC] at kC
      rw [hI] at kI
      clear hC hI
      go_enter Tryd.func20, Tryd.ntmps20
      go_wp2_with fail
      refine (kI w).mono ?_
      rintro e w1 ⟨rfl, rfl⟩
      go_wp2_with fail
      refine (kC _).mono ?_
      rintro e w1 ⟨rfl, rfl⟩
      go_wp2
      go_ret
      exact ⟨by rw [HE.out]; rfl, Below.refl _ _⟩
    · obtain ⟨k, rfl, hk⟩ := chain_nat hC
      obtain ⟨t, rfl, ht⟩ := leaf_nat hI
      rw [secI_of t k ht hk]
      exact impl_secret t k ht hk x w hx hT
/-- The link of a chain, as a value. -/
abbrev linkOf (c : Nat) : Value := .func (.func 29) #[.int .i64 (c : Int)] #[]
set_option maxHeartbeats 800000 in
theorem impl_walk (c s t : Nat) (hc : c < 11) (hst : s ≤ t) (ht : t ≤ 3) (x : ByteArray) (w : World) (hx : x.size = 8) (hT : Tab w) :
    Calls Tryd.prog 28 #[linkOf c, .string x, .int .i64 (s : Int), .int .i64 (t : Int)] w fun e w' => e = .returned (.string (hUp c s (t - s) x)) ∧ Below w.heap.size w w' := by
  have HX : Hid (x.size = 8) := hx
  have HT : Hid (Tab w) := hT
  clear hx hT
  go_enter Tryd.func28, Tryd.ntmps28
  go_wp2
  go_loopw [1, 9] (fun xv sv wr => ∃ (k : Nat) (y : ByteArray), sv = .int .i64 ((s : Int) + 1 + k) ∧ xv = .string y ∧ s + k ≤ t ∧ y.size ≤ 8 ∧ Hid (y = hUp c s k x) ∧ Below w.heap.size w wr) (fun _ sv _ => t + 1 - (intOf sv).toNat)
  case atStart => exact ⟨0, x, by simp, rfl, by omega, by rw [HX.out]; omega, rfl, Below.refl _ _⟩
  case round =>
    obtain ⟨k, y, rfl, rfl, hk, hy, HY, hb⟩ := hrel
    by_cases hlt : s + k < t
    · have hlt' : (s : Int) + 1 + (k : Int) ≤ (t : Int) := by omega
      have kL := fun W => impl_method c (s + k + 1) hc (by omega) y W (by omega)
      rw [show ((s + k + 1 : Nat) : Int) = (s : Int) + 1 + (k : Int) from by omega] at kL
      have HN : Hid (hLink c (s + k + 1) y = hUp c s (k + 1) x) := by show _ = _; rw [HY.out]; rfl
      have h8 : (hLink c (s + k + 1) y).size ≤ 8 := Nat.le_of_eq (size_shortB _)
      go_wp2_with fail
      refine (kL wr (HT.out.below hb HT.out.pos)).mono ?_
      rintro e w1 ⟨rfl, hb1⟩
      go_wp2
      go_round
      case rel => exact ⟨k + 1, _, by go_num, rfl, by omega, h8, HN, hb.trans (hb1.mono hb.size)⟩
      case measure => simp [intOf]; omega
    · have hlt' : ¬ (s : Int) + 1 + (k : Int) ≤ (t : Int) := by omega
      have HN : Hid (hUp c s (t - s) x = y) := by show _ = _; rw [HY.out, show t - s = k from by omega]
      go_wp2
      go_ret
      exact ⟨by rw [HN.out]; rfl, hb⟩
end Go.Proofs.YtppkjpfofgfiaaaDoor
