/- What spec.l6Vars and the two ReadVals answer; old memory stays. Conditions: texts of at most 2 to the 40 bytes. -/
import Derived.Test.YtaeokecodejpdaaSh
import Derived.Test.YtaeokecodejpdaaRvi
import Derived.Test.YtaeokecodejpdaaRvs
import Derived.Test.YtaeokecodejpdaaEn
import Derived.Test.YtaeokecodejpdaaLv
import Derived.Test.YtaeokecodejpdaaLi
import Derived.Deep.RegionHeld3
import Derived.Deep.AppendLies
namespace Go.Proofs.Ytaeokecodejpdaa
open Go.RowKit
open Num
set_option linter.unusedVariables false
/-- So many numbers from a place on, and where they end; none where one is missing. -/
def vL (s : ByteArray) (a : Nat) : Nat → Option (List Int × Nat)
  | 0 => some ([], a)
  | n + 1 => match vL s a n with
    | none => none
    | some (xs, b) => if (rvAt s b).2 = 0 then none else some (xs ++ [(rvAt s b).1], b + (rvAt s b).2)
theorem vL_go {s : ByteArray} {a n b : Nat} {xs : List Int} (h : vL s a n = some (xs, b)) (h0 : 0 < (rvAt s b).2) : vL s a (n + 1) = some (xs ++ [(rvAt s b).1], b + (rvAt s b).2) := by
  simp only [vL, h]; rw [if_neg (by omega)]
theorem vL_no {s : ByteArray} {a n b : Nat} {xs : List Int} (h : vL s a n = some (xs, b)) (h0 : (rvAt s b).2 = 0) : vL s a (n + 1) = none := by
  simp only [vL, h]; rw [if_pos h0]
theorem vL_none {s : ByteArray} {a n : Nat} (h : vL s a n = none) : vL s a (n + 1) = none := by
  simp only [vL, h]
theorem vL_len {s : ByteArray} {a : Nat} (ha : a ≤ s.size) : ∀ {n b : Nat} {xs : List Int}, vL s a n = some (xs, b) → xs.length = n ∧ b ≤ s.size
  | 0, b, xs, h => by
    simp [vL] at h
    obtain ⟨rfl, rfl⟩ := h
    exact ⟨rfl, ha⟩
  | n + 1, b, xs, h => by
    simp only [vL] at h
    split at h
    · cases h
    · rename_i ys c hc
      obtain ⟨h1, h2⟩ := vL_len ha hc
      split at h
      · cases h
      · simp at h
        obtain ⟨rfl, rfl⟩ := h
        have := (rvAt_bound s c).1
        exact ⟨by simp [h1], by omega⟩
theorem drop_ext (s : ByteArray) (a : Nat) : (s.extract a s.size).data.toList = s.data.toList.drop a := by
  rw [ByteArray.data_extract, Array.toList_extract, List.extract]
  rw [List.take_of_length_le (by rw [List.length_drop, len_toList]; omega)]
def i64v (x : Int) : Value := .int .i64 x
abbrev OwnI (w : World) (B : Nat) (v : Value) (l : List Int) : Prop := w.ownsRow B 3 1 v l.length (l.map i64v)
theorem own_snocI {w : World} {B : Nat} {v : Value} {l : List Int} {x : Int} (h : w.ownsRow B 3 1 v (l.length + 1) (l.map i64v ++ [i64v x])) : OwnI w B v (l ++ [x]) := by
  unfold OwnI
  rw [List.map_append, List.length_append]; exact h
theorem own_mono {w : World} {B B' : Nat} {e : TypeId} {size : Nat} {v : Value} {n : Nat} {xs : List Value} (h : w.ownsRow B e size v n xs) (hB : B' ≤ B) : w.ownsRow B' e size v n xs := by
  obtain ⟨h1, h2⟩ := h
  refine ⟨h1, ?_⟩
  rcases h2 with h2 | ⟨g, cap, cur, hv, hg, r⟩
  · exact Or.inl h2
  · exact Or.inr ⟨g, cap, cur, hv, Nat.le_trans hB hg, r⟩
theorem one_int (w : World) (x : Int) : ∀ j u, [i64v x][j]? = some u → (w.alloc (.cells #[.int .i64 x] 3)).cell? ((⟨w.heap.size, 0, none⟩ : Addr).add j) = some u := by
  intro j u hj
  rw [add_at, cell_of_row _ _ j #[.int .i64 x] 3 (0, 0) (heap_alloc_new _ _)]
  rw [← hj]; simp [i64v]
theorem i64v_one (l : List Int) : ∀ u ∈ l.map i64v, u.oneCell' = true := by
  intro u hu
  obtain ⟨x, _, rfl⟩ := List.mem_map.1 hu
  rfl
theorem OwnI.at {w : World} {B : Nat} {v : Value} {l : List Int} (h : OwnI w B v l) (h0 : 0 < l.length) : ∃ g cap, v = .slice (some ⟨g, 0, none⟩) l.length cap ∧ IAt w g 0 l := by
  have h' := h
  rcases h.2 with ⟨rfl, hn⟩ | ⟨g, cap, cur, rfl, _, hg, hnc, hcm, _⟩
  · omega
  · refine ⟨g, cap, rfl, fun j hj => ?_⟩
    rw [Nat.zero_add, h'.cellAt j (by omega)]
    simp [i64v, hj]
theorem own_below {w w' : World} {B : Nat} {e : TypeId} {size : Nat} {v : Value} {n : Nat} {xs : List Value} (h : w.ownsRow B e size v n xs) (hb : Below w.heap.size w w') : w'.ownsRow B e size v n xs := by
  obtain ⟨h1, h2⟩ := h
  refine ⟨h1, ?_⟩
  rcases h2 with h2 | ⟨g, cap, cur, hv, hg, hh, r⟩
  · exact Or.inl h2
  · exact Or.inr ⟨g, cap, cur, hv, hg, by rw [hb.block g ((Array.getElem?_eq_some_iff.1 hh).1)]; exact hh, r⟩
theorem vL_one_none {s : ByteArray} {a : Nat} (h : vL s a 1 = none) : (rvAt s a).2 = 0 := by
  simp only [vL] at h
  split at h
  · assumption
  · cases h
theorem vL_one_some {s : ByteArray} {a e : Nat} {xs : List Int} (h : vL s a 1 = some (xs, e)) : xs = [(rvAt s a).1] ∧ e = a + (rvAt s a).2 ∧ 0 < (rvAt s a).2 := by
  simp only [vL] at h
  split at h
  · cases h
  · simp at h
    exact ⟨h.1.symm, h.2.symm, by omega⟩
theorem vL_two_none {s : ByteArray} {b : Nat} (h : vL s b 2 = none) : (pairAt s b).i < 1 ∨ (pairAt s b).p < 1 := by
  by_cases h0 : (rvAt s b).2 = 0
  · left
    have := (rvAt_bound s b).2.2.2.1 h0
    show (rvAt s b).1 < 1
    omega
  · right
    have h1 : vL s b 1 = some ([] ++ [(rvAt s b).1], b + (rvAt s b).2) := vL_go (s := s) (a := b) (n := 0) (b := b) (xs := []) rfl (by omega)
    by_cases h2 : (rvAt s (b + (rvAt s b).2)).2 = 0
    · have := (rvAt_bound s (b + (rvAt s b).2)).2.2.2.1 h2
      show (rvAt s (b + (rvAt s b).2)).1 < 1
      omega
    · have := vL_go h1 (by omega)
      rw [this] at h; cases h
theorem vL_two_some {s : ByteArray} {b e : Nat} {xs : List Int} (h : vL s b 2 = some (xs, e)) : xs = [(pairAt s b).i, (pairAt s b).p] ∧ e = nxt s b := by
  by_cases h0 : (rvAt s b).2 = 0
  · have h1 : vL s b 1 = none := vL_no (s := s) (a := b) (n := 0) (b := b) (xs := []) rfl h0
    rw [vL_none h1] at h; cases h
  · have h1 : vL s b 1 = some ([] ++ [(rvAt s b).1], b + (rvAt s b).2) := vL_go (s := s) (a := b) (n := 0) (b := b) (xs := []) rfl (by omega)
    by_cases h2 : (rvAt s (b + (rvAt s b).2)).2 = 0
    · rw [vL_no h1 h2] at h; cases h
    · rw [vL_go h1 (by omega)] at h
      simp at h
      exact ⟨h.1.symm, h.2.symm⟩
/-- A row of numbers stands while another row, of validators, grows. -/
theorem own_other {w w' : World} {B B' : Nat} {v q : Value} {xs : List Int} {l : List V} (h : OwnI w B v xs) (hq : OwnV w B' q l) (hg : w.grownBy w' q.ownBlock) : OwnI w' B v xs := by
  obtain ⟨h1, h2⟩ := h
  refine ⟨h1, ?_⟩
  rcases h2 with h2 | ⟨g, cap, cur, hv, hgB, hh, r⟩
  · exact Or.inl h2
  · refine Or.inr ⟨g, cap, cur, hv, hgB, ?_, r⟩
    rw [hg.block g ((Array.getElem?_eq_some_iff.1 hh).1) ?_]
    · exact hh
    · intro e
      rcases hq.2 with ⟨hq1, _⟩ | ⟨g', cap', cur', hq1, _, hh', _⟩
      · rw [hq1] at e; cases e
      · rw [hq1] at e
        simp [Value.ownBlock] at e
        subst e
        rw [hh] at hh'
        simp at hh'
/-- No validators, just laid. -/
theorem own_none (w w' : World) (B : Nat) (hB : B ≤ w'.heap.size) : OwnV (w'.alloc (.cells #[] 34)) B (.slice (some ⟨w'.heap.size, 0, none⟩) 0 0) [] :=
  World.ownsRow_made w' #[] 0 hB (by decide) rfl
theorem toList_inj {a b : ByteArray} (h : a.toList = b.toList) : a = b := by
  rw [Go.ByteArray.toList_eq, Go.ByteArray.toList_eq] at h
  exact ByteArray.ext (Array.ext' h)
theorem OwnI.row {w : World} {B g n cap : Nat} {l : List Int} (h : OwnI w B (.slice (some ⟨g, 0, none⟩) n cap) l) : IAt w g 0 l := fun j hj => by
  have h' := h
  rcases h.2 with ⟨h1, hn⟩ | ⟨g', cap', cur, h1, _, hg, hnc, hcm, _⟩
  · cases h1
  · simp only [Value.slice.injEq, Option.some.injEq, Addr.mk.injEq, and_true] at h1
    obtain ⟨rfl, rfl, rfl⟩ := h1
    rw [Nat.zero_add, h'.cellAt j (by omega)]
    simp [i64v, hj]
end Go.Proofs.Ytaeokecodejpdaa
