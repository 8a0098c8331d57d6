/- Draws, as far as the laws of chapter 6 ask: whatever is drawn is of some size; old memory stands but for the cursor. Conditions: a code of at most 2 to the 20 bytes. -/
import Derived.Test.YtaeokecodejpdaaCur4
import Derived.Test.YtaeokecodejpdaaEn
import Derived.Test.YtaeokecodejpdaaLv
import Derived.Test.YtaeokecodejpdaaLi
import Derived.Test.YtaeokecodejpdaaRd
import Derived.Test.YtaeokecodejpdaaMh
namespace Go.Proofs.Ytaeokecodejpdaa
open Go.RowKit
open Num
set_option linter.unusedVariables false
/-- A cursor at block g over some code; both lie below B. -/
def DS (w : World) (g B : Nat) : Prop :=
  ∃ (a : Option Addr) (L : List UInt8) (cap : Nat) (s : St), L.length ≤ 1048576 ∧ CurAt w g a L.length cap s ∧ CodeAt w g a L ∧ g < B ∧ ∀ j, j < L.length → ∃ b off, a = some ⟨b, off, none⟩ ∧ b < B
theorem DS.below {w w' : World} {g B : Nat} (h : DS w g B) (hb : Below B w w') : DS w' g B := by
  obtain ⟨a, L, cap, s, h1, h2, h3, h4, h5⟩ := h
  refine ⟨a, L, cap, s, h1, ?_, fun j hj => ?_, h4, h5⟩
  · unfold CurAt at h2 ⊢
    rw [hb.block g h4]; exact h2
  · obtain ⟨b, off, e, hne, hc⟩ := h3 j hj
    obtain ⟨b', off', e', hlt⟩ := h5 j hj
    rw [e] at e'
    simp at e'
    obtain ⟨rfl, rfl⟩ := e'
    exact ⟨b, off, e, hne, by rw [hb.cell (p := ⟨b, off + j, none⟩) hlt]; exact hc⟩
theorem DS.lt {w : World} {g B : Nat} (h : DS w g B) : g < B := by
  obtain ⟨a, L, cap, s, h1, h2, h3, h4, h5⟩ := h
  exact h4
theorem DS.lt' {w : World} {g B : Nat} (h : DS w g B) : g < w.heap.size := by
  obtain ⟨a, L, cap, s, h1, h2, h3, h4, h5⟩ := h
  exact (Array.getElem?_eq_some_iff.1 h2).1
theorem own_gr {w w' : World} {B g : Nat} {e : TypeId} {size : Nat} {v : Value} {n : Nat} {xs : List Value} (h : w.ownsRow B e size v n xs) (hg : w.grownBy w' (some g)) (hB : g < B) : w'.ownsRow B e size v n xs := by
  obtain ⟨h1, h2⟩ := h
  refine ⟨h1, ?_⟩
  rcases h2 with h2 | ⟨g', cap, cur, hv, hgB, hh, r⟩
  · exact Or.inl h2
  · exact Or.inr ⟨g', cap, cur, hv, hgB, by rw [hg.block g' ((Array.getElem?_eq_some_iff.1 hh).1) (fun e => by injection e; omega)]; exact hh, r⟩
/-- What is drawn of validators. -/
def Drawn (l : List V) : Prop := l.length ≤ 8 ∧ ∀ v ∈ l, -1 ≤ v.p ∧ v.p ≤ 1001
theorem gr_alloc {a w : World} {r : Option Nat} (h : a.grownBy w r) (o : Obj) : a.grownBy (w.alloc o) r :=
  gr_trans h ⟨rfl, rfl, rfl, by simp, fun k hk _ => Below.heap_alloc w o k hk⟩
theorem vals_set_i : ∀ (l : List V) (k : Nat) (x : Int) (hk : k < l.length), (vals l).set (k * 2) (.int .i64 x) = vals (l.set k ⟨x, l[k].p⟩)
  | v :: l, 0, x, _ => by simp [vals]
  | v :: l, k + 1, x, h => by
    have ih := vals_set_i l k x (by simpa using h)
    have e : ∀ (y : V) (m : List V), vals (y :: m) = .int .i64 y.i :: .int .i64 y.p :: vals m := fun _ _ => rfl
    rw [e, show (k + 1) * 2 = (k * 2) + 1 + 1 from by omega, List.set_cons_succ, List.set_cons_succ, ih]
    rfl
theorem vals_set_p : ∀ (l : List V) (k : Nat) (x : Int) (hk : k < l.length), (vals l).set (k * 2 + 1) (.int .i64 x) = vals (l.set k ⟨l[k].i, x⟩)
  | v :: l, 0, x, _ => by simp [vals]
  | v :: l, k + 1, x, h => by
    have ih := vals_set_p l k x (by simpa using h)
    have e : ∀ (y : V) (m : List V), vals (y :: m) = .int .i64 y.i :: .int .i64 y.p :: vals m := fun _ _ => rfl
    rw [e, show (k + 1) * 2 + 1 = (k * 2 + 1) + 1 + 1 from by omega, List.set_cons_succ, List.set_cons_succ, ih]
    rfl
/-- One cell of a row that the call owns is written. -/
theorem own_put {w : World} {B g n cap j : Nat} {xs : List Value} {u : Value} (h : w.ownsRow B 34 2 (.slice (some ⟨g, 0, none⟩) n cap) n xs) (hj : j < n * 2) : (w.setCell ⟨g, j, none⟩ u).ownsRow B 34 2 (.slice (some ⟨g, 0, none⟩) n cap) n (xs.set j u) := by
  obtain ⟨h1, h2⟩ := h
  refine ⟨by rw [List.length_set]; exact h1, ?_⟩
  rcases h2 with ⟨h2, _⟩ | ⟨g', cap', cur, hv, hgB, hh, h3, h4, h5, h6⟩
  · cases h2
  · simp only [Value.slice.injEq, Option.some.injEq, Addr.mk.injEq, and_true, true_and] at hv
    obtain ⟨rfl, rfl⟩ := hv
    refine Or.inr ⟨g, cap, cur.setIfInBounds j u, rfl, hgB, ?_, h3, h4, by rw [Array.size_setIfInBounds]; exact h5, ?_⟩
    · rw [heap_setCell_same w g j _ 34 _ hh]
    · rw [Array.toList_setIfInBounds, List.take_set, h6]
theorem own_seti {w : World} {B g cap k : Nat} {l : List V} {x : Int} (h : OwnV w B (.slice (some ⟨g, 0, none⟩) l.length cap) l) (hk : k < l.length) : OwnV (w.setCell ⟨g, k * 2, none⟩ (.int .i64 x)) B (.slice (some ⟨g, 0, none⟩) l.length cap) (l.set k ⟨x, l[k].p⟩) := by
  have := own_put (u := .int .i64 x) h (show k * 2 < l.length * 2 by omega)
  rw [vals_set_i l k x hk] at this
  unfold OwnV
  rw [List.length_set]; exact this
theorem own_setp {w : World} {B g cap k : Nat} {l : List V} {x : Int} (h : OwnV w B (.slice (some ⟨g, 0, none⟩) l.length cap) l) (hk : k < l.length) : OwnV (w.setCell ⟨g, k * 2 + 1, none⟩ (.int .i64 x)) B (.slice (some ⟨g, 0, none⟩) l.length cap) (l.set k ⟨l[k].i, x⟩) := by
  have := own_put (u := .int .i64 x) h (show k * 2 + 1 < l.length * 2 by omega)
  rw [vals_set_p l k x hk] at this
  unfold OwnV
  rw [List.length_set]; exact this
theorem OwnV.row {w : World} {B : Nat} {v : Value} {l : List V} (h : OwnV w B v l) (h0 : 0 < l.length) : ∃ g cap, v = .slice (some ⟨g, 0, none⟩) l.length cap ∧ B ≤ g ∧ (∀ j, j < l.length * 2 → (w.cell? ⟨g, j, none⟩).isSome = true ∧ w.frozen? ⟨g, j, none⟩ = false) := by
  have h' := h
  rcases h.2 with ⟨rfl, hn⟩ | ⟨g, cap, cur, rfl, hB, hg, hnc, hcm, _⟩
  · omega
  · refine ⟨g, cap, rfl, hB, fun j hj => ⟨?_, h'.frozenAt j⟩⟩
    rw [h'.cellAt j (by omega), List.getElem?_eq_getElem (by rw [vals_length]; exact hj)]; rfl
theorem drawn_set {l : List V} {k : Nat} {v : V} (h : Drawn l) (hv : -1 ≤ v.p ∧ v.p ≤ 1001) : Drawn (l.set k v) := by
  refine ⟨by rw [List.length_set]; exact h.1, fun x hx => ?_⟩
  rcases List.mem_or_eq_of_mem_set hx with hx | hx
  · exact h.2 x hx
  · rw [hx]; exact hv
theorem gr_setnew {a w : World} {g b j : Nat} (h : a.grownBy w (some g)) (hb : a.heap.size ≤ b) (u : Value) : a.grownBy (w.setCell ⟨b, j, none⟩ u) (some g) :=
  grown_fresh h (gr_set w b j u) (fun k e => by injection e with e; omega)
end Go.Proofs.Ytaeokecodejpdaa
