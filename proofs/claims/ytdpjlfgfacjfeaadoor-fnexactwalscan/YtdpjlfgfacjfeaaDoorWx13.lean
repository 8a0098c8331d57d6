/- The walks of FnExactWalTrim and FnExactWalScan. Conditions: the table of sums lies as the program lays it. -/
import Derived.Test.YtdpjlfgfacjfeaaDoorIs
import Derived.Test.YtdpjlfgfacjfeaaDoorSs
namespace Go.Proofs.YtdpjlfgfacjfeaaDoor
open Go.RowKit
open Num
set_option linter.unusedVariables false
theorem few_of {s : ByteArray} {ts : List ByteArray} (h : Holds s.data.toList ts) (hs : s.size ≤ 1048576) : ts.length ≤ 1048576 := by
  have := h.few
  rw [len_toList] at this; omega
set_option maxHeartbeats 800000 in
set_option maxRecDepth 100000 in
theorem fn_exact_trim (s : ByteArray) (w : World) (hm : s.size ≤ 140737488355328) (hT : Tab w) :
    Calls Tryd.prog 5 #[.string s] w fun e w' => e = .returned (.bool true) ∧ Below w.heap.size w w' := by
  by_cases h : (1048576 : Int) < (s.size : Int)
  · clear hT
    go_enter Tryd.func5, Tryd.ntmps5
    go_wp2
    go_ret
    exact ⟨rfl, Below.refl _ _⟩
  · obtain ⟨ts, hH⟩ := holds_ex _ s.data.toList (Nat.le_refl _)
    have hf := few_of hH (by omega)
    have kS := fun W => spec_trim s ts W (by omega) (by omega) hH
    have kI := fun W hT => impl_trim s ts W (by omega) (by omega) hH hT
    have HT : Hid (Tab w) := hT
    clear hH hT
    generalize s.extract 0 (cat ts).length = x at *
    have hxx : (x.toList != x.toList) = false := by simp
    go_enter Tryd.func5, Tryd.ntmps5
    go_wp2_with fail
    refine (kS _).mono ?_
    rintro e w1 ⟨rfl, b1⟩
    have HT1 : Hid (Tab w1) := HT.out.below b1
    go_wp2_with fail
    refine (kI _ HT1.out).mono ?_
    rintro e w2 ⟨rfl, b2⟩
    go_wp2
    go_ret
    exact ⟨rfl, b1.trans (b2.mono b1.size)⟩
set_option maxHeartbeats 1600000 in
set_option maxRecDepth 100000 in
theorem fn_exact_scan (s : ByteArray) (w : World) (hm : s.size ≤ 140737488355328) (hT : Tab w) :
    Calls Tryd.prog 4 #[.string s] w fun e w' => e = .returned (.bool true) ∧ Below w.heap.size w w' := by
  by_cases h : (1048576 : Int) < (s.size : Int)
  · clear hT
    go_enter Tryd.func4, Tryd.ntmps4
    go_wp2
    go_ret
    exact ⟨rfl, Below.refl _ _⟩
  · obtain ⟨ts, hH⟩ := holds_ex _ s.data.toList (Nat.le_refl _)
    have hf := few_of hH (by omega)
    have kS := fun W => spec_scan s ts W (by omega) (by omega) hH
    have kI := fun W hT => impl_scan s ts W (by omega) (by omega) hH hT
    have kE := fun a a2 cap cap2 W hA hA2 => eq_same a a2 cap cap2 ts W hA hA2 (by omega)
    have kM := fun B a cap W hB hF => mark_fr B a ts cap 1 W hB (by omega) (by omega) (by omega) hF
    have kH := fun a cap W hS => held_any a ts.length cap 1 W (by omega) (by omega) (by omega) hS
    rw [show ((1 : Nat) : Int) = 1 from rfl] at kM kH
    have HT : Hid (Tab w) := hT
    clear hH hT
    generalize (cat ts).length = n at *
    obtain ⟨m, hmm⟩ : ∃ m : Nat, 1 + ts.length = m := ⟨_, rfl⟩
    rw [hmm] at kM kH
    have hm0 : ¬ (m : Int) < 0 := by omega
    have hnn : ((n : Int) != (n : Int)) = false := by simp
    have hmme : ((m : Int) != (m : Int)) = false := by simp
    clear hmm
    go_enter Tryd.func4, Tryd.ntmps4
    go_wp2_with fail
    refine (kS _).mono ?_
    rintro e w1 ⟨v0, rfl, o0, b1⟩
    obtain ⟨a0, c0, rfl, _, _, F0⟩ := own_fr o0
    have HT1 : Hid (Tab w1) := HT.out.below b1
    have HB1 : Hid (Below w.heap.size w w1) := b1
    have HF0 : Hid (StrO w1 a0 ts) := F0.o
    clear o0 F0 b1
    go_wp2_with fail
    refine (kI _ HT1.out).mono ?_
    rintro e w2 ⟨v1, rfl, o1, b2⟩
    obtain ⟨a1, c1, rfl, _, _, F1⟩ := own_fr o1
    have HK2 : Hid (Below w1.heap.size w1 w2) := b2
    have HF1 : Hid (Fr w1.heap.size w2 a1 ts) := F1
    clear o1 F1 b2
    go_wp2_with fail
    refine (kE _ _ _ _ _ HF1.out.o (HF0.out.below HK2.out)).mono ?_
    rintro e w3' ⟨rfl, q3, rfl⟩
    have HK3 : Hid (Below w1.heap.size w1 (w2.drewN q3)) := below_drewN HK2.out q3
    have HF3 : Hid (Fr w1.heap.size (w2.drewN q3) a1 ts) := HF1.out.below (below_drewN (Below.refl _ _) q3)
    generalize w2.drewN q3 = w3 at *
    go_wp2_with fail
    refine (kM _ _ _ _ HK3.out.size HF3.out).mono ?_
    rintro e w4 ⟨rfl, s4, b4⟩
    have HK4 : Hid (Below w1.heap.size w1 w4) := HK3.out.trans b4
    have HS4 : Hid (StrO w4 a1 (marks 1 ts.length)) := s4
    clear s4 b4
    go_wp2_with fail
    refine (kH _ _ _ HS4.out).mono ?_
    rintro e w5 ⟨rfl, b5⟩
    have HK5 : Hid (Below w1.heap.size w1 w5) := HK4.out.trans (b5.mono HK4.out.size)
    have HS5 : Hid (StrO w5 a1 (marks 1 ts.length)) := HS4.out.below b5
    have HT5 : Hid (Tab w5) := HT1.out.below HK5.out
    clear b5
    go_wp2_with fail
    refine (kI _ HT5.out).mono ?_
    rintro e w6 ⟨v2, rfl, o2, b6⟩
    obtain ⟨a2, c2, rfl, _, _, F2⟩ := own_fr o2
    have HK6 : Hid (Below w1.heap.size w1 w6) := HK5.out.trans (b6.mono HK5.out.size)
    have HS6 : Hid (StrO w6 a1 (marks 1 ts.length)) := HS5.out.below b6
    have HF6 : Hid (StrO w6 a2 ts) := F2.o
    clear o2 F2 b6
    go_wp2_with fail
    refine (kE _ _ _ _ _ HF6.out (HF0.out.below HK6.out)).mono ?_
    rintro e w7' ⟨rfl, q7, rfl⟩
    have HK7 : Hid (Below w1.heap.size w1 (w6.drewN q7)) := below_drewN HK6.out q7
    have HS7 : Hid (StrO (w6.drewN q7) a1 (marks 1 ts.length)) := HS6.out.below (below_drewN (Below.refl _ _) q7)
    generalize w6.drewN q7 = w7 at *
    go_wp2_with fail
    refine (kH _ _ _ HS7.out).mono ?_
    rintro e w8 ⟨rfl, b8⟩
    have HK8 : Hid (Below w1.heap.size w1 w8) := HK7.out.trans (b8.mono HK7.out.size)
    clear b8
    go_wp2
    go_ret
    exact ⟨rfl, HB1.out.trans (HK8.out.mono HB1.out.size)⟩
end Go.Proofs.YtdpjlfgfacjfeaaDoor
