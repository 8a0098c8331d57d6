/- Rows of signed votes, rows of what is kept of places, in cells. Conditions: none of ours. -/
import Derived.Test.YtclajbadeclbdaaDoorEo
import Derived.Laws.OwnMore
namespace Go.Proofs.YtclajbadeclbdaaDoor
open Go.RowKit
open Num
set_option linter.unusedVariables false
theorem flat_len {α : Type} (f : α → List Value) (n : Nat) (hf : ∀ x, (f x).length = n) : ∀ l : List α, (l.flatMap f).length = l.length * n
  | [] => by simp
  | x :: l => by rw [List.flatMap_cons, List.length_append, hf, flat_len f n hf l, List.length_cons, Nat.add_mul]; omega
theorem flat_at {α : Type} (f : α → List Value) (n : Nat) (hf : ∀ x, (f x).length = n) : ∀ (l : List α) (j : Nat) (hj : j < l.length) (c : Nat) (hc : c < n), (l.flatMap f)[j * n + c]? = (f l[j])[c]?
  | x :: l, 0, _, c, hc => by rw [List.flatMap_cons, List.getElem?_append_left (by rw [hf]; omega)]; simp
  | x :: l, j + 1, hj, c, hc => by
    have ih := flat_at f n hf l j (by simpa using hj) c hc
    rw [List.flatMap_cons, List.getElem?_append_right (by rw [hf, Nat.add_mul]; omega), hf, show (j + 1) * n + c - n = j * n + c from by rw [Nat.add_mul]; omega, ih]
    simp
/-- Votes in cells from a place on. -/
def YAt (w : World) (b o : Nat) (l : List Sv) : Prop := ∀ j (hj : j < l.length) c, c < 6 → w.cell? ⟨b, o + j * 6 + c, none⟩ = (yLs l[j])[c]?
def YO (w : World) (a : Option Addr) (l : List Sv) : Prop := l.length = 0 ∨ ∃ b o, a = some ⟨b, o, none⟩ ∧ YAt w b o l
theorem YAt.lt {w : World} {b o : Nat} {l : List Sv} (h : YAt w b o l) (h0 : 0 < l.length) : b < w.heap.size := World.block_lt_of_cell? w _ (h 0 h0 0 (by omega))
theorem YAt.below {w w' : World} {B b o : Nat} {l : List Sv} (h : YAt w b o l) (hb : Below B w w') (hB : b < B) : YAt w' b o l := fun j hj c hc =>
  (hb.cell (p := ⟨b, o + j * 6 + c, none⟩) hB).trans (h j hj c hc)
theorem YO.below {w w' : World} {a : Option Addr} {l : List Sv} (h : YO w a l) (hb : Below w.heap.size w w') : YO w' a l := by
  rcases h with h | ⟨b, o, h1, h2⟩
  · exact .inl h
  · rcases Nat.eq_zero_or_pos l.length with h0 | h0
    · exact .inl h0
    · exact .inr ⟨b, o, h1, h2.below hb (h2.lt h0)⟩
theorem YAt.six {w : World} {b o : Nat} {l : List Sv} (h : YAt w b o l) (j : Nat) (hj : j < l.length) :
    w.cell? ⟨b, o + j * 6, none⟩ = some (.int .i64 l[j].x.h) ∧ w.cell? ⟨b, o + j * 6 + 1, none⟩ = some (.int .i64 l[j].x.r) ∧ w.cell? ⟨b, o + j * 6 + 2, none⟩ = some (.int .i64 l[j].x.s) ∧ w.cell? ⟨b, o + j * 6 + 3, none⟩ = some (.string l[j].x.i) ∧ w.cell? ⟨b, o + j * 6 + 4, none⟩ = some (.int .i64 l[j].x.v) ∧ w.cell? ⟨b, o + j * 6 + 5, none⟩ = some (.string l[j].s) :=
  ⟨h j hj 0 (by omega), h j hj 1 (by omega), h j hj 2 (by omega), h j hj 3 (by omega), h j hj 4 (by omega), h j hj 5 (by omega)⟩
def ycs (l : List Sv) : List Value := l.flatMap yLs
abbrev OwnY (w : World) (B : Nat) (v : Value) (l : List Sv) : Prop := w.ownsRow B 32 6 v l.length (ycs l)
theorem ycs_snoc (l : List Sv) (y : Sv) : ycs (l ++ [y]) = ycs l ++ yLs y := by simp [ycs]
theorem y_one (y : Sv) : ∀ u ∈ yLs y, u.oneCell' = true := by
  intro u hu
  unfold yLs at hu
  simp only [List.mem_cons, List.not_mem_nil, or_false] at hu
  rcases hu with rfl | rfl | rfl | rfl | rfl | rfl <;> rfl
theorem own_snocY {w : World} {B : Nat} {v : Value} {l : List Sv} {y : Sv} (h : w.ownsRow B 32 6 v (l.length + 1) (ycs l ++ yLs y)) : OwnY w B v (l ++ [y]) := by
  unfold OwnY; rw [ycs_snoc, List.length_append]; exact h
theorem OwnY.o {w : World} {B : Nat} {v : Value} {l : List Sv} (h : OwnY w B v l) : ∃ a cap, v = .slice a l.length cap ∧ YO w a l ∧ l.length ≤ cap ∧ cap ≤ 9223372036854775807 := by
  have h' := h
  rcases h.2 with ⟨rfl, hn⟩ | ⟨g, cap, cur, rfl, _, hg, hnc, hcm, _⟩
  · exact ⟨none, 0, by rw [hn], .inl hn, by omega, by omega⟩
  · refine ⟨some ⟨g, 0, none⟩, cap, rfl, .inr ⟨g, 0, rfl, fun j hj c hc => ?_⟩, hnc, hcm⟩
    rw [Nat.zero_add, h'.cellAt (j * 6 + c) (by omega)]
    exact flat_at yLs 6 (fun _ => rfl) l j hj c hc
/-- What is kept of a place, in cells. -/
def entL (e : Ent) : List Value := eLs e.1 (e.2.getD zSv)
def ecs (F : List Ent) : List Value := F.flatMap entL
abbrev OwnE (w : World) (B : Nat) (v : Value) (F : List Ent) : Prop := w.ownsRow B 34 12 v F.length (ecs F)
theorem ecs_snoc (F : List Ent) (e : Ent) : ecs (F ++ [e]) = ecs F ++ entL e := by simp [ecs]
theorem e_one (e : Ent) : ∀ u ∈ entL e, u.oneCell' = true := by
  intro u hu
  unfold entL eLs at hu
  simp only [List.mem_cons, List.not_mem_nil, or_false] at hu
  rcases hu with rfl | rfl | rfl | rfl | rfl | rfl | rfl | rfl | rfl | rfl | rfl | rfl <;> rfl
theorem own_snocE {w : World} {B : Nat} {v : Value} {F : List Ent} {e : Ent} (h : w.ownsRow B 34 12 v (F.length + 1) (ecs F ++ entL e)) : OwnE w B v (F ++ [e]) := by
  unfold OwnE; rw [ecs_snoc, List.length_append]; exact h
theorem OwnE.nil (w : World) (B : Nat) : OwnE w B (.slice none 0 0) [] := ⟨rfl, .inl ⟨rfl, rfl⟩⟩
theorem ecs_at (F : List Ent) (j : Nat) (hj : j < F.length) (c : Nat) (hc : c < 12) : (ecs F)[j * 12 + c]? = (entL F[j])[c]? := flat_at entL 12 (fun _ => rfl) F j hj c hc
theorem OwnE.form {w : World} {B : Nat} {v : Value} {F : List Ent} (h : OwnE w B v F) : (v = .slice none 0 0 ∧ F = []) ∨ ∃ g cap, v = .slice (some ⟨g, 0, none⟩) F.length cap ∧ B ≤ g ∧ g < w.heap.size ∧ F.length ≤ cap ∧ cap ≤ 9223372036854775807 := by
  rcases h.2 with ⟨rfl, hn⟩ | ⟨g, cap, cur, rfl, hB, hg, hnc, hcm, _⟩
  · exact .inl ⟨rfl, List.length_eq_zero_iff.1 hn⟩
  · exact .inr ⟨g, cap, rfl, hB, (Array.getElem?_eq_some_iff.1 hg).1, hnc, hcm⟩
theorem OwnE.at {w : World} {B g cap : Nat} {F : List Ent} (h : OwnE w B (.slice (some ⟨g, 0, none⟩) F.length cap) F) (j : Nat) (hj : j < F.length) (c : Nat) (hc : c < 12) : w.cell? ⟨g, j * 12 + c, none⟩ = (entL F[j])[c]? := by
  have h' : w.ownsRow B 34 12 (.slice (some ⟨g, 0, none⟩) F.length cap) F.length (ecs F) := h
  rw [h'.cellAt (j * 12 + c) (by omega)]
  exact ecs_at F j hj c hc
theorem set_right {α : Type} (P X : List α) (c : Nat) (u : α) : (P ++ X).set (P.length + c) u = P ++ X.set c u := by
  rw [List.set_append, if_neg (by omega), Nat.add_sub_cancel_left]
theorem ecs_split (F : List Ent) (j : Nat) (hj : j < F.length) : ecs F = ecs (F.take j) ++ (entL F[j] ++ ecs (F.drop (j + 1))) := by
  unfold ecs
  rw [← List.flatMap_cons, ← List.flatMap_append, List.getElem_cons_drop, List.take_append_drop]
theorem ecs_set (F : List Ent) (j : Nat) (hj : j < F.length) (e : Ent) : ecs (F.set j e) = ecs (F.take j) ++ (entL e ++ ecs (F.drop (j + 1))) := by
  rw [ecs_split (F.set j e) j (by simpa using hj)]
  rw [List.take_set_of_le (Nat.le_refl _), List.getElem_set_self, List.drop_set_of_lt (by omega)]
theorem take_len (F : List Ent) (j : Nat) (hj : j < F.length) : (ecs (F.take j)).length = j * 12 := by
  unfold ecs; rw [flat_len entL 12 (fun _ => rfl), List.length_take, Nat.min_eq_left (by omega)]
/-- A second vote written into a row. -/
theorem OwnE.put6 {w : World} {B g cap : Nat} {F : List Ent} (h : OwnE w B (.slice (some ⟨g, 0, none⟩) F.length cap) F) (j : Nat) (hj : j < F.length) (y : Sv) :
    OwnE ((((((w.setCell ⟨g, j * 12 + 6, none⟩ (.int .i64 y.x.h)).setCell ⟨g, j * 12 + 7, none⟩ (.int .i64 y.x.r)).setCell ⟨g, j * 12 + 8, none⟩ (.int .i64 y.x.s)).setCell ⟨g, j * 12 + 9, none⟩ (.string y.x.i)).setCell ⟨g, j * 12 + 10, none⟩ (.int .i64 y.x.v)).setCell ⟨g, j * 12 + 11, none⟩ (.string y.s)) B (.slice (some ⟨g, 0, none⟩) F.length cap) (F.set j (F[j].1, some y)) := by
  have h0 : w.ownsRow B 34 12 (.slice (some ⟨g, 0, none⟩) F.length cap) F.length (ecs F) := h
  have h1 := (((((h0.stored (j * 12 + 6) (.int .i64 y.x.h)).1.stored (j * 12 + 7) (.int .i64 y.x.r)).1.stored (j * 12 + 8) (.int .i64 y.x.s)).1.stored (j * 12 + 9) (.string y.x.i)).1.stored (j * 12 + 10) (.int .i64 y.x.v)).1.stored (j * 12 + 11) (.string y.s)
  have e : ecs (F.set j (F[j].1, some y)) = ((((((ecs F).set (j * 12 + 6) (.int .i64 y.x.h)).set (j * 12 + 7) (.int .i64 y.x.r)).set (j * 12 + 8) (.int .i64 y.x.s)).set (j * 12 + 9) (.string y.x.i)).set (j * 12 + 10) (.int .i64 y.x.v)).set (j * 12 + 11) (.string y.s) := by
    rw [ecs_set F j hj, ecs_split F j hj, ← take_len F j hj]
    simp only [set_right]
    rfl
  unfold OwnE
  rw [List.length_set, e]
  exact h1.1
/-- An entry written into a row. -/
theorem OwnE.put12 {w : World} {B g cap : Nat} {F : List Ent} (h : OwnE w B (.slice (some ⟨g, 0, none⟩) F.length cap) F) (j : Nat) (hj : j < F.length) (a b : Sv) (e : Ent) (he : entL e = eLs a b) :
    OwnE ((((((((((((w.setCell ⟨g, j * 12, none⟩ (.int .i64 a.x.h)).setCell ⟨g, j * 12 + 1, none⟩ (.int .i64 a.x.r)).setCell ⟨g, j * 12 + 2, none⟩ (.int .i64 a.x.s)).setCell ⟨g, j * 12 + 3, none⟩ (.string a.x.i)).setCell ⟨g, j * 12 + 4, none⟩ (.int .i64 a.x.v)).setCell ⟨g, j * 12 + 5, none⟩ (.string a.s)).setCell ⟨g, j * 12 + 6, none⟩ (.int .i64 b.x.h)).setCell ⟨g, j * 12 + 7, none⟩ (.int .i64 b.x.r)).setCell ⟨g, j * 12 + 8, none⟩ (.int .i64 b.x.s)).setCell ⟨g, j * 12 + 9, none⟩ (.string b.x.i)).setCell ⟨g, j * 12 + 10, none⟩ (.int .i64 b.x.v)).setCell ⟨g, j * 12 + 11, none⟩ (.string b.s)) B (.slice (some ⟨g, 0, none⟩) F.length cap) (F.set j e) := by
  have h0 : w.ownsRow B 34 12 (.slice (some ⟨g, 0, none⟩) F.length cap) F.length (ecs F) := h
  have h1 := (((((((((((h0.stored (j * 12) (.int .i64 a.x.h)).1.stored (j * 12 + 1) (.int .i64 a.x.r)).1.stored (j * 12 + 2) (.int .i64 a.x.s)).1.stored (j * 12 + 3) (.string a.x.i)).1.stored (j * 12 + 4) (.int .i64 a.x.v)).1.stored (j * 12 + 5) (.string a.s)).1.stored (j * 12 + 6) (.int .i64 b.x.h)).1.stored (j * 12 + 7) (.int .i64 b.x.r)).1.stored (j * 12 + 8) (.int .i64 b.x.s)).1.stored (j * 12 + 9) (.string b.x.i)).1.stored (j * 12 + 10) (.int .i64 b.x.v)).1.stored (j * 12 + 11) (.string b.s)
  have e1 : ecs (F.set j e) = ((((((((((((ecs F).set (j * 12) (.int .i64 a.x.h)).set (j * 12 + 1) (.int .i64 a.x.r)).set (j * 12 + 2) (.int .i64 a.x.s)).set (j * 12 + 3) (.string a.x.i)).set (j * 12 + 4) (.int .i64 a.x.v)).set (j * 12 + 5) (.string a.s)).set (j * 12 + 6) (.int .i64 b.x.h)).set (j * 12 + 7) (.int .i64 b.x.r)).set (j * 12 + 8) (.int .i64 b.x.s)).set (j * 12 + 9) (.string b.x.i)).set (j * 12 + 10) (.int .i64 b.x.v)).set (j * 12 + 11) (.string b.s) := by
    rw [ecs_set F j hj, ecs_split F j hj, ← take_len F j hj, he]
    have s0 : ∀ (X : List Value) u, (ecs (F.take j) ++ X).set (ecs (F.take j)).length u = ecs (F.take j) ++ X.set 0 u := fun X u => set_right _ X 0 u
    simp only [s0, set_right]
    rfl
  unfold OwnE
  rw [List.length_set, e1]
  exact h1.1
end Go.Proofs.YtclajbadeclbdaaDoor
