/- What the laws' helpers markValS and heldValS answer; only the marked row is written. Conditions: rows that a machine can hold. -/
import Derived.Test.YtaeokecodejpdaaDoorG4
namespace Go.Proofs.YtaeokecodejpdaaDoor
open Go.RowKit
open Num
set_option linter.unusedVariables false
/-- So many validators, marked from k on. -/
def marks (k : Int) : Nat → List V
  | 0 => []
  | n + 1 => marks k n ++ [⟨k + 2 * n, k + 2 * n + 1⟩]
theorem marks_length (k : Int) : ∀ n, (marks k n).length = n
  | 0 => rfl
  | n + 1 => by rw [marks, List.length_append, marks_length k n]; rfl
theorem marks_at (k : Int) : ∀ n j (h : j < (marks k n).length), (marks k n)[j] = ⟨k + 2 * j, k + 2 * j + 1⟩
  | n + 1, j, h => by
    have hl := marks_length k n
    have hl' := marks_length k (n + 1)
    by_cases e : j = n
    · subst e
      have : (marks k (j + 1))[j]? = some ⟨k + 2 * j, k + 2 * j + 1⟩ := by
        rw [marks, List.getElem?_append_right (by omega), hl]; simp
      rw [List.getElem?_eq_getElem h] at this
      exact Option.some.inj this
    · have ih := marks_at k n j (by omega)
      have : (marks k (n + 1))[j]? = some ⟨k + 2 * j, k + 2 * j + 1⟩ := by
        rw [marks, List.getElem?_append_left (by omega), List.getElem?_eq_getElem (by omega), ih]
      rw [List.getElem?_eq_getElem h] at this
      exact Option.some.inj this
theorem gr_refl (w : World) (r : Option Nat) : w.grownBy w r := ⟨rfl, rfl, rfl, Nat.le_refl _, fun _ _ _ => rfl⟩
theorem gr_trans {a b c : World} {r : Option Nat} (h : a.grownBy b r) (k : b.grownBy c r) : a.grownBy c r :=
  ⟨k.os.trans h.os, k.tape.trans h.tape, k.output.trans h.output, Nat.le_trans h.size k.size, fun j hj hr => (k.block j (Nat.lt_of_lt_of_le hj h.size) hr).trans (h.block j hj hr)⟩
theorem gr_set (w : World) (g j : Nat) (u : Value) : w.grownBy (w.setCell ⟨g, j, none⟩ u) (some g) :=
  ⟨rfl, rfl, rfl, by rw [Deep.nblk_setCell]; exact Nat.le_refl _, fun k _ hr => Deep.blk_setCell_other w ⟨g, j, none⟩ u k (fun e => hr (by rw [e]))⟩
/-- Validators of an answer: none, or in cells that may be written. -/
def FrV (w : World) (B : Nat) (a : Option Addr) (l : List V) : Prop := l.length = 0 ∨ ∃ b o, a = some ⟨b, o, none⟩ ∧ B ≤ b ∧ VAt w b o l ∧ Room w b o (l.length * 2)
theorem FrV.o {w : World} {B : Nat} {a : Option Addr} {l : List V} (h : FrV w B a l) : VO w a l := by
  rcases h with h | ⟨b, o, h1, _, h2, _⟩
  · exact .inl h
  · exact .inr ⟨b, o, h1, h2⟩
theorem FrV.below {w w' : World} {B : Nat} {a : Option Addr} {l : List V} (h : FrV w B a l) (hb : Below w.heap.size w w') : FrV w' B a l := by
  rcases h with h | ⟨b, o, h1, h0, h2, h3⟩
  · exact .inl h
  · exact .inr ⟨b, o, h1, h0, h2.below hb, h3.below hb⟩
theorem OwnV.fr {w : World} {B : Nat} {v : Value} {l : List V} (h : OwnV w B v l) : ∃ a cap, v = .slice a l.length cap ∧ FrV w B a l ∧ l.length ≤ cap ∧ cap ≤ 9223372036854775807 := by
  have h' := h
  rcases h.2 with ⟨rfl, hn⟩ | ⟨g, cap, cur, rfl, hB, hg, hnc, hcm, _⟩
  · exact ⟨none, 0, by rw [hn], .inl hn, by omega, by omega⟩
  · refine ⟨some ⟨g, 0, none⟩, cap, rfl, .inr ⟨g, 0, rfl, hB, fun j hj => ?_, fun j hj => ?_⟩, hnc, hcm⟩
    · obtain ⟨e1, e2⟩ := vals_at l j hj
      rw [Nat.zero_add, h'.cellAt (j * 2) (by omega), h'.cellAt (j * 2 + 1) (by omega), e1, e2]
      exact ⟨rfl, rfl⟩
    · rw [Nat.zero_add]
      refine ⟨?_, h'.frozenAt j⟩
      rw [h'.cellAt j (by omega), List.getElem?_eq_getElem (by rw [vals_length]; exact hj)]; rfl
/-- A row in another block stands while block g is written. -/
theorem vAt_other {w w' : World} {b o g : Nat} {l : List V} (h : VAt w b o l) (hg : w.grownBy w' (some g)) (hne : b ≠ g) : VAt w' b o l := fun j hj => by
  obtain ⟨h1, h2⟩ := h j hj
  have hlt := World.block_lt_of_cell? w _ h1
  have hbl := hg.block b hlt (fun e => hne (by injection e))
  exact ⟨by rw [World.cell?_of_block (w := w) (a := ⟨b, o + j * 2, none⟩) hbl]; exact h1, by rw [World.cell?_of_block (w := w) (a := ⟨b, o + j * 2 + 1, none⟩) hbl]; exact h2⟩
theorem vO_other {w w' : World} {a : Option Addr} {g B : Nat} {l : List V} (h : VO w a l) (hg : w.grownBy w' (some g)) (hB : ∀ b o, a = some ⟨b, o, none⟩ → b < B) (hgB : B ≤ g) : VO w' a l := by
  rcases h with h | ⟨b, o, h1, h2⟩
  · exact .inl h
  · exact .inr ⟨b, o, h1, vAt_other h2 hg (by have := hB b o h1; omega)⟩
end Go.Proofs.YtaeokecodejpdaaDoor
