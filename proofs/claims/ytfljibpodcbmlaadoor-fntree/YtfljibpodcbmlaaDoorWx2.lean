/- The walks of the exact laws of PathRoot, Includes and TreePath, over whatever the program's own functions are proved to answer. -/
import Derived.Test.YtfljibpodcbmlaaDoorWx1
namespace Go.Proofs.YtfljibpodcbmlaaDoor
open Go.RowKit
open Num
set_option linter.unusedVariables false
set_option maxHeartbeats 1600000 in
theorem w_pathRoot (T : World → Prop) (c : CPathRoot T) (leaf : ByteArray) (hx : leaf.size ≤ 140737488355328) (i n : Int) (hi0 : -9223372036854775808 ≤ i) (hi1 : i ≤ 9223372036854775807) (hn0 : -9223372036854775808 ≤ n) (hn1 : n ≤ 9223372036854775807) (a : Option Addr) (cap : Nat) (ss : List ByteArray) (w : World) (hA : StrO w a ss) (hm : ss.length ≤ 140737488355328) (hs : ∀ s ∈ ss, s.size ≤ 140737488355328) (hT : ∀ W, Below w.heap.size w W → T W) :
    Calls Tryd.prog 8 #[.string leaf, .int .i64 i, .int .i64 n, .slice a ss.length cap] w fun e w' => e = .returned (.bool true) ∧ Below w.heap.size w w' := by
  have HC : Hid (CPathRoot T) := c
  have HT : Hid (∀ W, Below w.heap.size w W → T W) := hT
  have HA : Hid (StrO w a ss) := hA
  have HCS : Hid (Calls _ _ _ _ _) := sz_any a cap ss 1048576 w hA (by omega) (by omega) hm hs
  clear c hT hA hs
  by_cases hbig : (1048576 : Int) < (leaf.size : Int)
  · go_enter Tryd.func8, Tryd.ntmps8
    go_wp2
    go_ret
    exact ⟨rfl, Below.refl _ _⟩
  · by_cases hz : szV ss 1048576 < 0
    · go_enter Tryd.func8, Tryd.ntmps8
      go_wp2_with fail
      refine HCS.out.mono ?_
      rintro e w1 ⟨rfl, rfl⟩
      generalize szV ss 1048576 = z at *
      go_wp2
      go_ret
      exact ⟨rfl, Below.refl _ _⟩
    · have hsz := szV_yes hz
      have hl : ss.length ≤ 1048576 := by omega
      have HF : Hid (∀ s ∈ ss, s.size ≤ 1048576) := few_of (by omega)
      clear hsz
      go_enter Tryd.func8, Tryd.ntmps8
      go_wp2_with fail
      refine HCS.out.mono ?_
      rintro e w1 ⟨rfl, rfl⟩
      clear HCS
      generalize szV ss 1048576 = z at *
      go_wp2_with fail
      refine (to_any a cap ss w1 HA.out hl).mono ?_
      rintro e w2 ⟨rfl, ho2, hb2⟩
      go_wp2_with fail
      refine (spec_pathRoot leaf (by omega) i n hi0 hi1 hn0 hn1 ss.length _ ss w2 (Nat.le_refl _) (by omega) (own_o ho2) (fun s h => Nat.le_trans (HF.out s h) (by decide))).mono ?_
      rintro e w3 ⟨rfl, hb3⟩
      have hb13 := hb2.trans (hb3.mono hb2.size)
      clear hb2 hb3 ho2
      go_wp2_with fail
      refine (to_any a cap ss w3 (HA.out.below hb13) hl).mono ?_
      rintro e w4 ⟨rfl, ho4, hb4⟩
      have HO4 : Hid (OwnS w4 w3.heap.size w3.heap.size ss.length ss) := ho4
      have hb14 := hb13.trans (hb4.mono hb13.size)
      clear hb4 ho4 hb13
      go_wp2_with fail
      refine (HC.out leaf i n _ ss.length ss w4 (by omega) hi0 hi1 hn0 hn1 hl (Nat.le_refl _) (by omega) (own_o HO4.out) (fun s h => Nat.le_trans (HF.out s h) (by decide)) (HT.out _ hb14)).mono ?_
      rintro e w5 ⟨rfl, hb5⟩
      have HO5 : Hid (OwnS w5 w3.heap.size w3.heap.size ss.length ss) := own_below HO4.out hb5
      have hb15 := hb14.trans (hb5.mono hb14.size)
      clear hb5 hb14 HO4
      generalize pathR leaf i n ss = v at *
      obtain ⟨v1, v2⟩ := v
      have hvv : (v1.toList != v1.toList) = false := by simp
      have hv2 : (v2 != v2) = false := by simp
      go_wp2_with fail
      refine (to_any a cap ss w5 (HA.out.below hb15) hl).mono ?_
      rintro e w6 ⟨rfl, ho6, hb6⟩
      have HO6 : Hid (StrO w6 (some ⟨w3.heap.size, 0, none⟩) ss) := own_o (own_below HO5.out hb6)
      have HO7 : Hid (StrO w6 (some ⟨w5.heap.size, 0, none⟩) ss) := own_o ho6
      have hb16 := hb15.trans (hb6.mono hb15.size)
      clear hb6 hb15 ho6 HO5
      go_wp2_with fail
      refine (eq_same _ _ ss.length ss.length ss w6 HO6.out HO7.out (by omega)).mono ?_
      rintro e w7 ⟨rfl, q, rfl⟩
      have hb17 := below_drewN hb16 q
      clear hb16 HO6 HO7
      go_wp2
      go_ret
      exact ⟨rfl, hb17⟩
set_option maxHeartbeats 1600000 in
theorem w_incl (T : World → Prop) (c : CIncl T) (root data : ByteArray) (hx : root.size ≤ 140737488355328) (hy : data.size ≤ 140737488355328) (i n : Int) (hi0 : -9223372036854775808 ≤ i) (hi1 : i ≤ 9223372036854775807) (hn0 : -9223372036854775808 ≤ n) (hn1 : n ≤ 9223372036854775807) (a : Option Addr) (cap : Nat) (ss : List ByteArray) (w : World) (hA : StrO w a ss) (hm : ss.length ≤ 140737488355328) (hs : ∀ s ∈ ss, s.size ≤ 140737488355328) (hT : ∀ W, Below w.heap.size w W → T W) :
    Calls Tryd.prog 9 #[.string root, .string data, .int .i64 i, .int .i64 n, .slice a ss.length cap] w fun e w' => e = .returned (.bool true) ∧ Below w.heap.size w w' := by
  have HC : Hid (CIncl T) := c
  have HT : Hid (∀ W, Below w.heap.size w W → T W) := hT
  have HA : Hid (StrO w a ss) := hA
  have HCS : Hid (Calls _ _ _ _ _) := sz_any a cap ss 1048576 w hA (by omega) (by omega) hm hs
  clear c hT hA hs
  by_cases hbig : (1048576 : Int) < (root.size : Int)
  · go_enter Tryd.func9, Tryd.ntmps9
    go_wp2
    go_ret
    exact ⟨rfl, Below.refl _ _⟩
  · by_cases hbig2 : (1048576 : Int) < (data.size : Int)
    · go_enter Tryd.func9, Tryd.ntmps9
      go_wp2
      go_ret
      exact ⟨rfl, Below.refl _ _⟩
    · by_cases hz : szV ss 1048576 < 0
      · go_enter Tryd.func9, Tryd.ntmps9
        go_wp2_with fail
        refine HCS.out.mono ?_
        rintro e w1 ⟨rfl, rfl⟩
        generalize szV ss 1048576 = z at *
        go_wp2
        go_ret
        exact ⟨rfl, Below.refl _ _⟩
      · have hsz := szV_yes hz
        have hl : ss.length ≤ 1048576 := by omega
        have HF : Hid (∀ s ∈ ss, s.size ≤ 1048576) := few_of (by omega)
        clear hsz
        go_enter Tryd.func9, Tryd.ntmps9
        go_wp2_with fail
        refine HCS.out.mono ?_
        rintro e w1 ⟨rfl, rfl⟩
        clear HCS
        generalize szV ss 1048576 = z at *
        go_wp2_with fail
        refine (to_any a cap ss w1 HA.out hl).mono ?_
        rintro e w2 ⟨rfl, ho2, hb2⟩
        go_wp2_with fail
        refine (spec_includes root data (by omega) i n hi0 hi1 hn0 hn1 ss.length _ ss w2 (Nat.le_refl _) (by omega) (own_o ho2) (fun s h => Nat.le_trans (HF.out s h) (by decide))).mono ?_
        rintro e w3 ⟨rfl, hb3⟩
        have hb13 := hb2.trans (hb3.mono hb2.size)
        clear hb2 hb3 ho2
        go_wp2_with fail
        refine (to_any a cap ss w3 (HA.out.below hb13) hl).mono ?_
        rintro e w4 ⟨rfl, ho4, hb4⟩
        have HO4 : Hid (OwnS w4 w3.heap.size w3.heap.size ss.length ss) := ho4
        have hb14 := hb13.trans (hb4.mono hb13.size)
        clear hb4 ho4 hb13
        go_wp2_with fail
        refine (HC.out root data i n _ ss.length ss w4 (by omega) (by omega) hi0 hi1 hn0 hn1 hl (Nat.le_refl _) (by omega) (own_o HO4.out) (fun s h => Nat.le_trans (HF.out s h) (by decide)) (HT.out _ hb14)).mono ?_
        rintro e w5 ⟨rfl, hb5⟩
        have HO5 : Hid (OwnS w5 w3.heap.size w3.heap.size ss.length ss) := own_below HO4.out hb5
        have hb15 := hb14.trans (hb5.mono hb14.size)
        clear hb5 hb14 HO4
        generalize incl root data i n ss = v at *
        have hvv : (v != v) = false := by simp
        go_wp2_with fail
        refine (to_any a cap ss w5 (HA.out.below hb15) hl).mono ?_
        rintro e w6 ⟨rfl, ho6, hb6⟩
        have HO6 : Hid (StrO w6 (some ⟨w3.heap.size, 0, none⟩) ss) := own_o (own_below HO5.out hb6)
        have HO7 : Hid (StrO w6 (some ⟨w5.heap.size, 0, none⟩) ss) := own_o ho6
        have hb16 := hb15.trans (hb6.mono hb15.size)
        clear hb6 hb15 ho6 HO5
        go_wp2_with fail
        refine (eq_same _ _ ss.length ss.length ss w6 HO6.out HO7.out (by omega)).mono ?_
        rintro e w7 ⟨rfl, q, rfl⟩
        have hb17 := below_drewN hb16 q
        clear hb16 HO6 HO7
        go_wp2
        go_ret
        exact ⟨rfl, hb17⟩
end Go.Proofs.YtfljibpodcbmlaaDoor
