/- What is asked of the functions of chapter 4, as shapes; rows of texts that a call owns. -/
import Derived.Test.YtppkjpfofgfiaaaDoorLhx
namespace Go.Proofs.YtppkjpfofgfiaaaDoor
open Go.RowKit
open Num
set_option linter.unusedVariables false
theorem own_str {w : World} {B g cap : Nat} {l : List ByteArray} (h : OwnS w B g cap l) : StrAt w g 0 l := fun j hj => by
  rw [Nat.zero_add, h.cellAt j (by omega), List.getElem?_map, List.getElem?_eq_getElem hj]; rfl
theorem own_there {w : World} {B g cap : Nat} {l : List ByteArray} (h : OwnS w B g cap l) : w.there g 0 l.length := fun j hj => by
  have := own_str h j hj
  exact ⟨by rw [this]; rfl, by rw [Nat.zero_add]; exact h.frozenAt j⟩
theorem own_o {w : World} {B g cap : Nat} {l : List ByteArray} (h : OwnS w B g cap l) : StrO w (some ⟨g, 0, none⟩) l := .inr ⟨g, 0, rfl, own_str h⟩
/-- What is asked of the program's own functions. -/
def CLeaf (T : World → Prop) : Prop := ∀ (x : ByteArray) (W : World), x.size ≤ 2097152 → T W → Calls Tryd.prog 47 #[.string x] W fun e w' => e = .returned (.string (leafH x)) ∧ Below W.heap.size W w'
def CNode (T : World → Prop) : Prop := ∀ (x y : ByteArray) (W : World), x.size ≤ 2097152 → y.size ≤ 2097152 → T W → Calls Tryd.prog 49 #[.string x, .string y] W fun e w' => e = .returned (.string (nodeH x y)) ∧ Below W.heap.size W w'
def CRoot (T : World → Prop) : Prop := ∀ (b o cap : Nat) (ss : List ByteArray) (W : World), ss.length ≤ 1048576 → ss.length ≤ cap → cap ≤ 9223372036854775807 → StrAt W b o ss → (∀ s ∈ ss, s.size ≤ 1048577) → T W →
  Calls Tryd.prog 24 #[.slice (some ⟨b, o, none⟩) ss.length cap] W fun e w' => e = .returned (.string (treeR ss)) ∧ Below W.heap.size W w'
def CPathRoot (T : World → Prop) : Prop := ∀ (leaf : ByteArray) (i n : Int) (a : Option Addr) (cap : Nat) (p : List ByteArray) (W : World), leaf.size ≤ 1048577 → -9223372036854775808 ≤ i → i ≤ 9223372036854775807 → -9223372036854775808 ≤ n → n ≤ 9223372036854775807 → p.length ≤ 1048576 → p.length ≤ cap → cap ≤ 9223372036854775807 → StrO W a p → (∀ s ∈ p, s.size ≤ 1048577) → T W →
  Calls Tryd.prog 57 #[.string leaf, .int .i64 i, .int .i64 n, .slice a p.length cap] W fun e w' => e = .returned (.tuple #[.string (pathR leaf i n p).1, .bool (pathR leaf i n p).2]) ∧ Below W.heap.size W w'
def CIncl (T : World → Prop) : Prop := ∀ (root data : ByteArray) (i n : Int) (a : Option Addr) (cap : Nat) (p : List ByteArray) (W : World), root.size ≤ 1048577 → data.size ≤ 1048577 → -9223372036854775808 ≤ i → i ≤ 9223372036854775807 → -9223372036854775808 ≤ n → n ≤ 9223372036854775807 → p.length ≤ 1048576 → p.length ≤ cap → cap ≤ 9223372036854775807 → StrO W a p → (∀ s ∈ p, s.size ≤ 1048577) → T W →
  Calls Tryd.prog 35 #[.string root, .string data, .int .i64 i, .int .i64 n, .slice a p.length cap] W fun e w' => e = .returned (.bool (incl root data i n p)) ∧ Below W.heap.size W w'
/-- Texts of an answer: none, or in cells of its own that may be written. -/
def Fr (B : Nat) (w : World) (a : Option Addr) (l : List ByteArray) : Prop := l.length = 0 ∨ ∃ b o, a = some ⟨b, o, none⟩ ∧ B ≤ b ∧ StrAt w b o l ∧ w.there b o l.length
theorem Fr.o {B : Nat} {w : World} {a : Option Addr} {l : List ByteArray} (h : Fr B w a l) : StrO w a l := by
  rcases h with h | ⟨b, o, h1, h2, h3, h4⟩
  · exact .inl h
  · exact .inr ⟨b, o, h1, h3⟩
theorem Fr.below {B : Nat} {w w' : World} {a : Option Addr} {l : List ByteArray} (h : Fr B w a l) (hb : Below w.heap.size w w') : Fr B w' a l := by
  rcases h with h | ⟨b, o, h1, h2, h3, h4⟩
  · exact .inl h
  · exact .inr ⟨b, o, h1, h2, h3.below hb, there_below h4 hb⟩
theorem strAt_other {w w' : World} {b o g : Nat} {l : List ByteArray} (h : StrAt w b o l) (hg : w.grownBy w' (some g)) (hne : b ≠ g) : StrAt w' b o l := fun j hj => by
  have hc := h j hj
  have hlt := World.block_lt_of_cell? w _ hc
  rw [World.cell?_of_block (w := w) (a := ⟨b, o + j, none⟩) (hg.block b hlt (fun e => hne (by injection e)))]
  exact hc
theorem there_other {w w' : World} {b o g n : Nat} (h : w.there b o n) (hg : w.grownBy w' (some g)) (hne : b ≠ g) : w'.there b o n := fun j hj => by
  obtain ⟨h1, h2⟩ := h j hj
  obtain ⟨u, hu⟩ := Option.isSome_iff_exists.1 h1
  have hlt := World.block_lt_of_cell? w _ hu
  have hblk := hg.block b hlt (fun e => hne (by injection e))
  exact ⟨by rw [World.cell?_of_block (w := w) (a := ⟨b, o + j, none⟩) hblk]; exact h1, by rw [World.frozen?_of_block (w := w) (a := ⟨b, o + j, none⟩) hblk]; exact h2⟩
theorem Fr.other {B g : Nat} {w w' : World} {a : Option Addr} {l : List ByteArray} (h : Fr B w a l) (hg : w.grownBy w' (some g)) (hB : g < B) : Fr B w' a l := by
  rcases h with h | ⟨b, o, h1, h2, h3, h4⟩
  · exact .inl h
  · exact .inr ⟨b, o, h1, h2, strAt_other h3 hg (by omega), there_other h4 hg (by omega)⟩
def CPath (T : World → Prop) : Prop := ∀ (b o cap : Nat) (ss : List ByteArray) (i : Int) (W : World), ss.length ≤ 1048576 → ss.length ≤ cap → cap ≤ 9223372036854775807 → StrAt W b o ss → (∀ s ∈ ss, s.size ≤ 1048577) → -9223372036854775808 ≤ i → i ≤ 9223372036854775807 → T W →
  Calls Tryd.prog 30 #[.slice (some ⟨b, o, none⟩) ss.length cap, .int .i64 i] W fun e w' => ∃ a c, e = .returned (.slice a (treeP ss i).length c) ∧ (treeP ss i).length ≤ c ∧ c ≤ 9223372036854775807 ∧ Fr W.heap.size w' a (treeP ss i) ∧ Below W.heap.size W w'
theorem length_treeP (ss : List ByteArray) (i : Int) : (treeP ss i).length ≤ 40 := by
  unfold treeP
  split
  · simp
  · have := length_pathL ss.length ss i.toNat (Nat.le_refl _) (by omega)
    omega
end Go.Proofs.YtppkjpfofgfiaaaDoor
