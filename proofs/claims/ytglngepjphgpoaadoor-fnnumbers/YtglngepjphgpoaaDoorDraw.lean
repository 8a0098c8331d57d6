/- What spec.DrawVar, DrawHex and DrawReadVar answer: each call on one code the same. Old memory stays. -/
import Derived.Test.YtglngepjphgpoaaDoorSpoil
import Derived.Test.YtglngepjphgpoaaDoorVar
namespace Go.Proofs.YtglngepjphgpoaaDoor
open Go.RowKit
open Num
set_option linter.unusedVariables false
theorem new_cur (a : Option Addr) (L : List UInt8) (cap : Nat) (w : World) : CurAt (w.alloc (.cells #[.slice a L.length cap, .int .i64 0, .int .i64 (newF L)] 51)) w.heap.size a L.length cap ⟨0, newF L⟩ := heap_alloc_new w _
theorem new_code {a : Option Addr} {L : List UInt8} {w : World} (o : Obj) (h : CodeAt w w.heap.size a L) : CodeAt (w.alloc o) w.heap.size a L := CodeAt.kept h (grown_alloc (grown_refl _ _) _)
theorem below_new {w w' : World} (o : Obj) (h : (w.alloc o).grownBy w' (some w.heap.size)) : Below w.heap.size w w' :=
  ((Below.refl _ _).alloc (Nat.le_refl _) o).trans (below_grownBy h (by simp) (Nat.le_refl _))
def st0 (L : List UInt8) : St := ⟨0, newF L⟩
def drawVar (L : List UInt8) : Int := numV L (st0 L)
def drawHex (L : List UInt8) : ByteArray := ⟨(textP L (st0 L) 40).1.toArray⟩
set_option maxHeartbeats 400000 in
theorem drawVar_any (a : Option Addr) (L : List UInt8) (cap : Nat) (w : World) (hl : CodeAt w w.heap.size a L) (hlen : L.length ≤ 1048576) :
    Calls Tryd.prog 7 #[.slice a L.length cap] w fun e w' => e = .returned (.int .i64 (drawVar L)) ∧ Below w.heap.size w w' := by
  have HL : Hid (CodeAt w w.heap.size a L) := hl
  clear hl
  go_enter Tryd.func7, Tryd.ntmps7
  go_wp2_with fail
  refine (new_any a L cap _ HL.out hlen).mono ?_
  rintro e w1 ⟨rfl, rfl⟩
  have HC1 : Hid (_) := new_cur a L cap w
  go_wp2_with fail
  refine (num_any w.heap.size a L cap (st0 L) _ HC1.out (new_code _ HL.out) hlen).mono ?_
  rintro e w2 ⟨rfl, _, hg2⟩
  go_wp2
  go_ret
  exact ⟨rfl, below_new _ hg2⟩
set_option maxHeartbeats 400000 in
theorem drawHex_any (a : Option Addr) (L : List UInt8) (cap : Nat) (w : World) (hl : CodeAt w w.heap.size a L) (hlen : L.length ≤ 1048576) :
    Calls Tryd.prog 8 #[.slice a L.length cap] w fun e w' => e = .returned (.string (drawHex L)) ∧ Below w.heap.size w w' := by
  have HL : Hid (CodeAt w w.heap.size a L) := hl
  clear hl
  go_enter Tryd.func8, Tryd.ntmps8
  go_wp2_with fail
  refine (new_any a L cap _ HL.out hlen).mono ?_
  rintro e w1 ⟨rfl, rfl⟩
  have HC1 : Hid (_) := new_cur a L cap w
  go_wp2_with fail
  refine (text_any w.heap.size a L cap (st0 L) 40 _ HC1.out (new_code _ HL.out) hlen (by omega) (by omega)).mono ?_
  rintro e w2 ⟨rfl, _, hg2⟩
  go_wp2
  go_ret
  exact ⟨rfl, below_new _ hg2⟩
theorem size_drawHex (L : List UInt8) : (drawHex L).size ≤ 40 := by
  have := length_textP L (st0 L) 40 (by omega)
  unfold drawHex
  rw [size_mk]; omega
theorem length_vl : ∀ (f : Nat) (n : Int), (vl f n).length ≤ f + 1
  | 0, n => by simp [vl]
  | f + 1, n => by
    unfold vl
    split
    · simp
    · have := length_vl f (n / 128); simp; omega
theorem size_var (n : Int) : (var n).size ≤ 7 := by
  by_cases h : n < 0 ∨ 562949953421311 < n
  · rw [var_no n h]; decide
  · rw [var_yes n (by omega) (by omega), size_mk]; exact length_vl 6 n
/-- The text before it may be spoilt. -/
def preV (L : List UInt8) : ByteArray := var (numV L (st0 L)) ++ ⟨(textP L (numN L (st0 L)) 4).1.toArray⟩
def preN (L : List UInt8) : St := (textP L (numN L (st0 L)) 4).2
theorem size_preV (L : List UInt8) : (preV L).size ≤ 11 := by
  have h1 := size_var (numV L (st0 L))
  have h2 := length_textP L (numN L (st0 L)) 4 (by omega)
  have h3 : (⟨(textP L (numN L (st0 L)) 4).1.toArray⟩ : ByteArray).size = _ := size_mk _
  unfold preV
  rw [ByteArray.size_append, h3]; omega
def drawReadVar (L : List UInt8) : ByteArray :=
  if belowV L (preN L) 4 = 0 then (if (preV L).size = 0 then ⟨(textP L (belowN L (preN L) 4) 3).1.toArray⟩ else (spoilP L (belowN L (preN L) 4) (preV L)).1) else preV L
set_option maxHeartbeats 400000 in
theorem spoil_empty (g : Nat) (a : Option Addr) (L : List UInt8) (cap : Nat) (s : St) (t : ByteArray) (w : World) (hc : CurAt w g a L.length cap s) (hl : CodeAt w g a L) (hlen : L.length ≤ 1048576) (ht0 : t.size = 0) :
    Calls Tryd.prog 30 #[.pointer (some ⟨g, 0, none⟩), .string t] w fun e w' => e = .returned (.string ⟨(textP L s 3).1.toArray⟩) ∧ w.grownBy w' (some g) := by
  have HC : Hid (CurAt w g a L.length cap s) := hc
  have HL : Hid (CodeAt w g a L) := hl
  clear hc hl
  have hq : ((t.size : Int) == 0) = true := by rw [ht0]; rfl
  clear ht0
  go_enter Tryd.func30, Tryd.ntmps30
  go_wp2_with fail
  refine (text_any g a L cap s 3 _ HC.out HL.out hlen (by omega) (by omega)).mono ?_
  rintro e w1 ⟨rfl, _, hg1⟩
  go_wp2
  go_ret
  exact ⟨rfl, hg1⟩
set_option maxHeartbeats 800000 in
theorem drawReadVar_any (a : Option Addr) (L : List UInt8) (cap : Nat) (w : World) (hl : CodeAt w w.heap.size a L) (hlen : L.length ≤ 1048576) :
    Calls Tryd.prog 17 #[.slice a L.length cap] w fun e w' => e = .returned (.string (drawReadVar L)) ∧ Below w.heap.size w w' := by
  have HL : Hid (CodeAt w w.heap.size a L) := hl
  clear hl
  go_enter Tryd.func17, Tryd.ntmps17
  go_wp2_with fail
  refine (new_any a L cap _ HL.out hlen).mono ?_
  rintro e w1 ⟨rfl, rfl⟩
  have HC1 : Hid (_) := new_cur a L cap w
  have HL1 : Hid (_) := new_code (.cells #[.slice a L.length cap, .int .i64 0, .int .i64 (newF L)] 51) HL.out
  go_wp2_with fail
  refine (num_any w.heap.size a L cap (st0 L) _ HC1.out HL1.out hlen).mono ?_
  rintro e w2 ⟨rfl, hc2, hg2⟩
  have HC2 : Hid (CurAt w2 w.heap.size a L.length cap (numN L (st0 L))) := hc2
  have HL2 : Hid (CodeAt w2 w.heap.size a L) := CodeAt.kept HL1.out hg2
  have hs2 : w.heap.size < w2.heap.size := (Array.getElem?_eq_some_iff.1 hc2).1
  clear hc2
  go_wp2_with fail
  refine (spec_var (numV L (st0 L)) _).mono ?_
  rintro e w3 ⟨rfl, hb3⟩
  have HC3 : Hid (CurAt w3 w.heap.size a L.length cap (numN L (st0 L))) := show w3.heap[_]? = _ by
    rw [hb3.block _ hs2]; exact HC2.out
  have hg3 : w2.grownBy w3 (some w.heap.size) := ⟨hb3.os, hb3.tape, hb3.output, hb3.size, fun k hk _ => hb3.block k hk⟩
  have HL3 : Hid (CodeAt w3 w.heap.size a L) := CodeAt.kept HL2.out hg3
  clear hb3
  go_wp2_with fail
  refine (text_any w.heap.size a L cap (numN L (st0 L)) 4 _ HC3.out HL3.out hlen (by omega) (by omega)).mono ?_
  rintro e w4 ⟨rfl, hc4, hg4⟩
  have HC4 : Hid (CurAt w4 w.heap.size a L.length cap (preN L)) := hc4
  have HL4 : Hid (CodeAt w4 w.heap.size a L) := CodeAt.kept HL3.out hg4
  have hgw := grown_trans hg2 (grown_trans hg3 hg4)
  clear hc4 hg2 hg3 hg4
  have hsv := size_var (numV L (st0 L))
  have hst : ((⟨(textP L (numN L (st0 L)) 4).1.toArray⟩ : ByteArray)).size ≤ 4 := by
    have h2 := length_textP L (numN L (st0 L)) 4 (by omega)
    rw [size_mk]; omega
  have HPV : Hid (preV L = _) := rfl
  go_wp2_with fail
  refine (once_any w.heap.size a L cap (preN L) 4 _ HC4.out HL4.out hlen).mono ?_
  rintro e w5 ⟨rfl, hc5, hg5⟩
  have HC5 : Hid (CurAt w5 w.heap.size a L.length cap (belowN L (preN L) 4)) := hc5
  have HL5 : Hid (CodeAt w5 w.heap.size a L) := CodeAt.kept HL4.out hg5
  have hgw5 := grown_trans hgw hg5
  clear hc5 hg5 hgw
  by_cases hz : belowV L (preN L) 4 = 0
  · have hq : (belowV L (preN L) 4 == 0) = true := by rw [hz]; rfl
    rw [hq]
    by_cases hp : (preV L).size = 0
    · have HF : Hid (drawReadVar L = _) := show drawReadVar L = ⟨(textP L (belowN L (preN L) 4) 3).1.toArray⟩ by unfold drawReadVar; rw [if_pos hz, if_pos hp]
      clear hz hq
      go_wp2_with fail
      refine (spoil_empty w.heap.size a L cap (belowN L (preN L) 4) _ _ HC5.out HL5.out hlen hp).mono ?_
      rintro e w6 ⟨rfl, hg6⟩
      clear hp
      go_wp2
      go_ret
      exact ⟨ret_str HF.out.symm, below_new _ (grown_trans hgw5 hg6)⟩
    · have HF : Hid (drawReadVar L = _) := show drawReadVar L = (spoilP L (belowN L (preN L) 4) (preV L)).1 by unfold drawReadVar; rw [if_pos hz, if_neg hp]
      have HP1 : Hid (0 < (preV L).size ∧ (preV L).size ≤ 1000) := ⟨by omega, by have := size_preV L; omega⟩
      clear hz hq hp
      go_wp2_with fail
      refine (spoil_any w.heap.size a L cap (belowN L (preN L) 4) (preV L) _ HC5.out HL5.out hlen HP1.out.1 HP1.out.2).mono ?_
      rintro e w6 ⟨rfl, _, hg6⟩
      go_wp2
      go_ret
      exact ⟨ret_str HF.out.symm, below_new _ (grown_trans hgw5 hg6)⟩
  · have HF : Hid (drawReadVar L = _) := show drawReadVar L = preV L by unfold drawReadVar; rw [if_neg hz]
    have hq : (belowV L (preN L) 4 == 0) = false := by simpa using hz
    rw [hq]
    clear hz hq
    go_wp2
    go_ret
    exact ⟨ret_str HF.out.symm, below_new _ hgw5⟩
end Go.Proofs.YtglngepjphgpoaaDoor
