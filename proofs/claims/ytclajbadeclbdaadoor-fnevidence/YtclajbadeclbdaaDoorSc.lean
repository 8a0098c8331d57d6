/- What slices.Sort, slices.Compact and strings.Clone answer at rows of numbers that a call owns and at texts; old memory stays. Conditions: what a machine can hold. -/
import Derived.Test.YtclajbadeclbdaaDoorRi
import Derived.Test.YtclajbadeclbdaaDoorShelf
import Derived.Shelf.Slices.In.SortNone
import Derived.Lib.OwnBridge
namespace Go.Proofs.YtclajbadeclbdaaDoor
open Go.RowKit
open Num
set_option linter.unusedVariables false
def srt (zs : List Int) : List Int := zs.mergeSort fun x y => decide (x ≤ y)
theorem grow_block (w : World) (os : Array Obj) (g : Nat) (h : g < w.heap.size) : (Go.Sort.grow w os).heap[g]? = w.heap[g]? := by
  unfold Go.Sort.grow; simp [Array.getElem?_append_left h]
theorem below_grow {B : Nat} {w0 w : World} (os : Array Obj) (h : Below B w0 w) (hB : B ≤ w.heap.size) : Below B w0 (Go.Sort.grow w os) :=
  ⟨h.os, h.tape, h.output, by have := h.size; unfold Go.Sort.grow; simp; omega, fun k hk => by rw [grow_block w os k (by omega)]; exact h.block k hk⟩
theorem own_grow {w : World} {B : Nat} {v : Value} {l : List Int} (os : Array Obj) (h : OwnI w B v l) : OwnI (Go.Sort.grow w os) B v l := by
  obtain ⟨h1, h2⟩ := h
  refine ⟨h1, ?_⟩
  rcases h2 with h2 | ⟨g, cap, cur, hv, hg, hh, r⟩
  · exact Or.inl h2
  · exact Or.inr ⟨g, cap, cur, hv, hg, by rw [grow_block w os g (Array.getElem?_eq_some_iff.1 hh).1]; exact hh, r⟩
set_option maxHeartbeats 400000 in
set_option maxRecDepth 100000 in
theorem sort_own (v : Value) (zs : List Int) (B : Nat) (w : World) (h : OwnI w B v zs) (hB : B ≤ w.heap.size) (hz : zs.length ≤ 1048576) :
    Calls Tryd.prog 35 #[v] w fun e w' => e = .returned (.tuple #[]) ∧ OwnI w' B v (srt zs) ∧ Below B w w' := by
  by_cases h0 : zs = []
  · subst h0
    obtain ⟨a, c, rfl⟩ : ∃ a c, v = .slice a 0 c := by
      rcases h.2 with ⟨rfl, _⟩ | ⟨g, cap, cur, rfl, _⟩
      · exact ⟨_, _, rfl⟩
      · exact ⟨_, _, rfl⟩
    refine (Tryd.slices_Sort_int_none a c w).mono ?_
    rintro e w' ⟨rfl, rfl⟩
    exact ⟨rfl, by unfold srt; rw [List.mergeSort_nil]; exact h, Below.refl _ _⟩
  · have hv : v ≠ .slice none 0 0 := fun e => by
      rcases h.2 with ⟨_, hn⟩ | ⟨g, cap, cur, e', _⟩
      · exact h0 (List.eq_nil_of_length_eq_zero hn)
      · rw [e'] at e; cases e
    have h' : w.ownsRow B 3 1 v zs.length (zs.map (Value.int .i64)) := h
    obtain ⟨g, cap, rfl, hBg, hlt, _, _, _, hH⟩ := Go.Lib.holds_of_ownsRow h' hv
    refine (Tryd.slices_Sort_int g 0 cap zs w hH hlt (by omega)).mono ?_
    rintro e w' ⟨rfl, n, os, rfl⟩
    have hl : (srt zs).length = zs.length := List.length_mergeSort _
    have hp := Go.Lib.ownsRow_putRow (q := n) (k := zs.length) (ys := srt zs) h' hl (Nat.le_refl _)
    rw [List.take_of_length_le (by omega)] at hp
    refine ⟨rfl, own_grow os ?_, below_grow os (Go.Lib.below_putRow (Below.refl _ _) hBg) (by simp [Go.Sort.putRow, Go.Sort.mapBlock, Go.Sort.ahead]; exact hB)⟩
    show World.ownsRow _ B 3 1 _ (srt zs).length ((srt zs).map i64v)
    rw [hl]; exact hp
theorem compact_le (zs : List Int) : (Lib.compact zs).length ≤ zs.length := by
  unfold Lib.compact Lib.compactUpTo
  rw [List.length_map]
  exact Nat.le_trans (List.length_filter_le _ _) (by simp)
set_option maxHeartbeats 400000 in
set_option maxRecDepth 100000 in
theorem compact_own (v : Value) (zs : List Int) (B : Nat) (w : World) (h : OwnI w B v zs) (hB : B ≤ w.heap.size) (hz : zs.length ≤ 1048576) :
    Calls Tryd.prog 36 #[v] w fun e w' => ∃ v', e = .returned v' ∧ OwnI w' B v' (Lib.compact zs) ∧ Below B w w' := by
  by_cases h0 : zs = []
  · subst h0
    obtain ⟨a, c, rfl⟩ : ∃ a c, v = .slice a 0 c := by
      rcases h.2 with ⟨rfl, _⟩ | ⟨g, cap, cur, rfl, _⟩
      · exact ⟨_, _, rfl⟩
      · exact ⟨_, _, rfl⟩
    refine (Tryd.slices_Compact_int_empty a c w).mono ?_
    rintro e w' ⟨rfl, rfl⟩
    exact ⟨_, rfl, h, Below.refl _ _⟩
  · have hv : v ≠ .slice none 0 0 := fun e => by
      rcases h.2 with ⟨_, hn⟩ | ⟨g, cap, cur, e', _⟩
      · exact h0 (List.eq_nil_of_length_eq_zero hn)
      · rw [e'] at e; cases e
    have h' : w.ownsRow B 3 1 v zs.length (zs.map (Value.int .i64)) := h
    obtain ⟨g, cap, rfl, hBg, hlt, hcap, _, _, hH⟩ := Go.Lib.holds_of_ownsRow h' hv
    refine (Tryd.slices_Compact_int g 0 cap zs w hH (by omega) hcap).mono ?_
    rintro e w' ⟨rfl, n, rfl⟩
    have hle := compact_le zs
    have hl : (Lib.compact zs ++ List.replicate (zs.length - (Lib.compact zs).length) 0).length = zs.length := by simp; omega
    have hp := Go.Lib.ownsRow_putRow (q := n) (k := (Lib.compact zs).length) (ys := Lib.compact zs ++ List.replicate (zs.length - (Lib.compact zs).length) 0) h' hl hle
    rw [List.take_left] at hp
    exact ⟨_, rfl, hp, Go.Lib.below_putRow (Below.refl _ _) hBg⟩
theorem impl_clone (s : ByteArray) (w : World) (hs : s.size ≤ 1048576) :
    Calls Tryd.prog 52 #[.string s] w fun e w' => e = .returned (.string s) ∧ Below w.heap.size w w' := by
  go_enter Tryd.func52, Tryd.ntmps52
  go_wp2_with fail
  refine (Tryd.stringslite_Clone s w (by omega)).mono ?_
  rintro e w1 ⟨rfl, hb⟩
  go_wp2
  go_ret
  exact ⟨rfl, hb⟩
end Go.Proofs.YtclajbadeclbdaaDoor
