/- The walks of the exact laws of chapter 4 but TreePath's, over whatever the program's own functions are proved to answer (the premises named c.., T: what they ask of a world, kept wherever old memory is). -/
import Derived.Test.YtfljibpodcbmlaaDoorLh2
namespace Go.Proofs.YtfljibpodcbmlaaDoor
open Go.RowKit
open Num
set_option linter.unusedVariables false
theorem own_str {w : World} {B g cap : Nat} {l : List ByteArray} (h : OwnS w B g cap l) : StrAt w g 0 l := fun j hj => by
  rw [Nat.zero_add, h.cellAt j (by omega), List.getElem?_map, List.getElem?_eq_getElem hj]; rfl
theorem own_there {w : World} {B g cap : Nat} {l : List ByteArray} (h : OwnS w B g cap l) : w.there g 0 l.length := fun j hj => by
  have := own_str h j hj
  exact ⟨by rw [this]; rfl, by rw [Nat.zero_add]; exact h.frozenAt j⟩
theorem own_o {w : World} {B g cap : Nat} {l : List ByteArray} (h : OwnS w B g cap l) : StrO w (some ⟨g, 0, none⟩) l := .inr ⟨g, 0, rfl, own_str h⟩
theorem szV_yes {ss : List ByteArray} {left : Int} (h : ¬ szV ss left < 0) : (ss.length : Int) + (total ss : Int) ≤ left := by
  unfold szV at h
  split at h
  · assumption
  · omega
theorem few_of {ss : List ByteArray} {n : Nat} (h : total ss ≤ n) : ∀ s ∈ ss, s.size ≤ n := fun s hs => Nat.le_trans (mem_total hs) h
/-- What is asked of the program's own functions. -/
def CLeaf (T : World → Prop) : Prop := ∀ (x : ByteArray) (W : World), x.size ≤ 2097152 → T W → Calls Tryd.prog 18 #[.string x] W fun e w' => e = .returned (.string (leafH x)) ∧ Below W.heap.size W w'
def CNode (T : World → Prop) : Prop := ∀ (x y : ByteArray) (W : World), x.size ≤ 2097152 → y.size ≤ 2097152 → T W → Calls Tryd.prog 20 #[.string x, .string y] W fun e w' => e = .returned (.string (nodeH x y)) ∧ Below W.heap.size W w'
def CRoot (T : World → Prop) : Prop := ∀ (b o cap : Nat) (ss : List ByteArray) (W : World), ss.length ≤ 1048576 → ss.length ≤ cap → cap ≤ 9223372036854775807 → StrAt W b o ss → (∀ s ∈ ss, s.size ≤ 1048577) → T W →
  Calls Tryd.prog 12 #[.slice (some ⟨b, o, none⟩) ss.length cap] W fun e w' => e = .returned (.string (treeR ss)) ∧ Below W.heap.size W w'
def CPathRoot (T : World → Prop) : Prop := ∀ (leaf : ByteArray) (i n : Int) (a : Option Addr) (cap : Nat) (p : List ByteArray) (W : World), leaf.size ≤ 1048577 → -9223372036854775808 ≤ i → i ≤ 9223372036854775807 → -9223372036854775808 ≤ n → n ≤ 9223372036854775807 → p.length ≤ 1048576 → p.length ≤ cap → cap ≤ 9223372036854775807 → StrO W a p → (∀ s ∈ p, s.size ≤ 1048577) → T W →
  Calls Tryd.prog 28 #[.string leaf, .int .i64 i, .int .i64 n, .slice a p.length cap] W fun e w' => e = .returned (.tuple #[.string (pathR leaf i n p).1, .bool (pathR leaf i n p).2]) ∧ Below W.heap.size W w'
def CIncl (T : World → Prop) : Prop := ∀ (root data : ByteArray) (i n : Int) (a : Option Addr) (cap : Nat) (p : List ByteArray) (W : World), root.size ≤ 1048577 → data.size ≤ 1048577 → -9223372036854775808 ≤ i → i ≤ 9223372036854775807 → -9223372036854775808 ≤ n → n ≤ 9223372036854775807 → p.length ≤ 1048576 → p.length ≤ cap → cap ≤ 9223372036854775807 → StrO W a p → (∀ s ∈ p, s.size ≤ 1048577) → T W →
  Calls Tryd.prog 15 #[.string root, .string data, .int .i64 i, .int .i64 n, .slice a p.length cap] W fun e w' => e = .returned (.bool (incl root data i n p)) ∧ Below W.heap.size W w'
set_option maxHeartbeats 400000 in
theorem w_leaf (T : World → Prop) (c : CLeaf T) (x : ByteArray) (hx : x.size ≤ 140737488355328) (w : World) (hT : ∀ W, Below w.heap.size w W → T W) :
    Calls Tryd.prog 4 #[.string x] w fun e w' => e = .returned (.bool true) ∧ Below w.heap.size w w' := by
  have HC : Hid (CLeaf T) := c
  have HT : Hid (∀ W, Below w.heap.size w W → T W) := hT
  clear c hT
  by_cases hb : (1048576 : Int) < (x.size : Int)
  · go_enter Tryd.func4, Tryd.ntmps4
    go_wp2
    go_ret
    exact ⟨rfl, Below.refl _ _⟩
  · go_enter Tryd.func4, Tryd.ntmps4
    go_wp2_with fail
    refine (spec_leaf x w (by omega)).mono ?_
    rintro e w1 ⟨rfl, hb1⟩
    go_wp2_with fail
    refine (HC.out x w1 (by omega) (HT.out _ hb1)).mono ?_
    rintro e w2 ⟨rfl, hb2⟩
    have hb3 := hb1.trans (hb2.mono hb1.size)
    clear hb1 hb2
    generalize leafH x = v
    go_wp2
    go_ret
    exact ⟨rfl, hb3⟩
set_option maxHeartbeats 400000 in
theorem w_node (T : World → Prop) (c : CNode T) (x y : ByteArray) (hx : x.size ≤ 140737488355328) (hy : y.size ≤ 140737488355328) (w : World) (hT : ∀ W, Below w.heap.size w W → T W) :
    Calls Tryd.prog 5 #[.string x, .string y] w fun e w' => e = .returned (.bool true) ∧ Below w.heap.size w w' := by
  have HC : Hid (CNode T) := c
  have HT : Hid (∀ W, Below w.heap.size w W → T W) := hT
  clear c hT
  by_cases hb : (1048576 : Int) < (x.size : Int)
  · go_enter Tryd.func5, Tryd.ntmps5
    go_wp2
    go_ret
    exact ⟨rfl, Below.refl _ _⟩
  · by_cases hb' : (1048576 : Int) < (y.size : Int)
    · go_enter Tryd.func5, Tryd.ntmps5
      go_wp2
      go_ret
      exact ⟨rfl, Below.refl _ _⟩
    · go_enter Tryd.func5, Tryd.ntmps5
      go_wp2_with fail
      refine (spec_node x y w (by omega) (by omega)).mono ?_
      rintro e w1 ⟨rfl, hb1⟩
      go_wp2_with fail
      refine (HC.out x y w1 (by omega) (by omega) (HT.out _ hb1)).mono ?_
      rintro e w2 ⟨rfl, hb2⟩
      have hb3 := hb1.trans (hb2.mono hb1.size)
      clear hb1 hb2
      generalize nodeH x y = v
      go_wp2
      go_ret
      exact ⟨rfl, hb3⟩
set_option maxHeartbeats 800000 in
theorem w_root (T : World → Prop) (c : CRoot T) (a : Option Addr) (cap : Nat) (ss : List ByteArray) (w : World) (hA : StrO w a ss) (hm : ss.length ≤ 140737488355328) (hs : ∀ s ∈ ss, s.size ≤ 140737488355328) (hT : ∀ W, Below w.heap.size w W → T W) :
    Calls Tryd.prog 6 #[.slice a ss.length cap] w fun e w' => e = .returned (.bool true) ∧ Below w.heap.size w w' := by
  have HC : Hid (CRoot T) := c
  have HT : Hid (∀ W, Below w.heap.size w W → T W) := hT
  have HA : Hid (StrO w a ss) := hA
  have HCS : Hid (Calls _ _ _ _ _) := sz_any a cap ss 1048576 w hA (by omega) (by omega) hm hs
  clear c hT hA hs
  by_cases hz : szV ss 1048576 < 0
  · go_enter Tryd.func6, Tryd.ntmps6
    go_wp2_with fail
    refine HCS.out.mono ?_
    rintro e w1 ⟨rfl, rfl⟩
    generalize szV ss 1048576 = z at *
    go_wp2
    go_ret
    exact ⟨rfl, Below.refl _ _⟩
  · have hsz := szV_yes hz
    have hl : ss.length ≤ 1048576 := by omega
    have HF : Hid (∀ s ∈ ss, s.size ≤ 1048576) := few_of (by omega)
    clear hsz
    go_enter Tryd.func6, Tryd.ntmps6
    go_wp2_with fail
    refine HCS.out.mono ?_
    rintro e w1 ⟨rfl, rfl⟩
    clear HCS
    generalize szV ss 1048576 = z at *
    go_wp2_with fail
    refine (to_any a cap ss w1 HA.out hl).mono ?_
    rintro e w2 ⟨rfl, ho2, hb2⟩
    go_wp2_with fail
    refine (spec_treeRoot w1.heap.size 0 ss.length ss w2 (Nat.le_refl _) (by omega) (own_str ho2) (fun s h => Nat.le_trans (HF.out s h) (by decide))).mono ?_
    rintro e w3 ⟨rfl, hb3⟩
    have hb13 := hb2.trans (hb3.mono hb2.size)
    clear hb2 hb3 ho2
    go_wp2_with fail
    refine (to_any a cap ss w3 (HA.out.below hb13) hl).mono ?_
    rintro e w4 ⟨rfl, ho4, hb4⟩
    have HO4 : Hid (OwnS w4 w3.heap.size w3.heap.size ss.length ss) := ho4
    have hb14 := hb13.trans (hb4.mono hb13.size)
    clear hb4 ho4 hb13
    go_wp2_with fail
    refine (HC.out w3.heap.size 0 ss.length ss w4 hl (Nat.le_refl _) (by omega) (own_str HO4.out) (fun s h => Nat.le_trans (HF.out s h) (by decide)) (HT.out _ hb14)).mono ?_
    rintro e w5 ⟨rfl, hb5⟩
    have HO5 : Hid (OwnS w5 w3.heap.size w3.heap.size ss.length ss) := own_below HO4.out hb5
    have hb15 := hb14.trans (hb5.mono hb14.size)
    clear hb5 hb14 HO4
    generalize treeR ss = v at *
    have hvv : (v.toList != v.toList) = false := by simp
    go_wp2_with fail
    refine (to_any a cap ss w5 (HA.out.below hb15) hl).mono ?_
    rintro e w6 ⟨rfl, ho6, hb6⟩
    have HO6 : Hid (StrO w6 (some ⟨w3.heap.size, 0, none⟩) ss) := own_o (own_below HO5.out hb6)
    have HO7 : Hid (StrO w6 (some ⟨w5.heap.size, 0, none⟩) ss) := own_o ho6
    have hb16 := hb15.trans (hb6.mono hb15.size)
    clear hb6 hb15 ho6 HO5
    go_wp2_with fail
    refine (eq_same _ _ ss.length ss.length ss w6 HO6.out HO7.out (by omega)).mono ?_
    rintro e w7 ⟨rfl, q, rfl⟩
    have hb17 := below_drewN hb16 q
    clear hb16 HO6 HO7
    go_wp2
    go_ret
    exact ⟨rfl, hb17⟩
end Go.Proofs.YtfljibpodcbmlaaDoor
