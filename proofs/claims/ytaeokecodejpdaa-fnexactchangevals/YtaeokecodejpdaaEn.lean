/- What spec.l6Has, slices.Index and slices.Contains at numbers, valsAmong and the two Enough answer; old memory stays. Conditions: rows that a machine can hold. -/
import Derived.Test.YtaeokecodejpdaaPw
namespace Go.Proofs.Ytaeokecodejpdaa
open Go.RowKit
open Num
set_option linter.unusedVariables false
theorem contains_take_all {l : List Int} {x : Int} {k : Nat} (h : hasI (l.take k) x = false) (hk : l.length ≤ k) : hasI l x = false := by
  rwa [List.take_of_length_le hk] at h
theorem contains_snoc {l : List Int} {x : Int} {k : Nat} (hk : k < l.length) (h : hasI (l.take k) x = false) (hne : l[k] ≠ x) : hasI (l.take (k + 1)) x = false := by
  unfold hasI at *
  rw [List.take_succ_eq_append_getElem hk]
  simp only [List.contains_eq_mem, List.mem_append, List.mem_singleton, decide_eq_false_iff_not] at h ⊢
  rintro (h' | h')
  · exact h h'
  · exact hne h'.symm
theorem contains_at {l : List Int} {x : Int} {k : Nat} (hk : k < l.length) (h : l[k] = x) : hasI l x = true := by
  unfold hasI; rw [List.contains_eq_mem, decide_eq_true_iff, ← h]; exact List.getElem_mem ..
/-- Validators laid in a row, as values. -/
def vals (l : List V) : List Value := l.flatMap fun v => [.int .i64 v.i, .int .i64 v.p]
theorem vals_length : ∀ l : List V, (vals l).length = l.length * 2
  | [] => rfl
  | v :: l => by
    have := vals_length l
    unfold vals at this ⊢
    rw [List.flatMap_cons, List.length_append, this, List.length_cons]; simp; omega
theorem vals_snoc (l : List V) (v : V) : vals (l ++ [v]) = vals l ++ [.int .i64 v.i, .int .i64 v.p] := by simp [vals]
theorem vals_append (l m : List V) : vals (l ++ m) = vals l ++ vals m := by simp [vals]
theorem vals_one : ∀ (l : List V), ∀ u ∈ vals l, u.oneCell' = true := by
  intro l u hu
  simp only [vals, List.mem_flatMap] at hu
  obtain ⟨v, _, hv⟩ := hu
  simp at hv
  rcases hv with rfl | rfl <;> rfl
theorem vals_at : ∀ (l : List V) (j : Nat) (hj : j < l.length), (vals l)[j * 2]? = some (.int .i64 l[j].i) ∧ (vals l)[j * 2 + 1]? = some (.int .i64 l[j].p)
  | v :: l, 0, _ => by simp [vals]
  | v :: l, j + 1, h => by
    have ih := vals_at l j (by simpa using h)
    have e : vals (v :: l) = .int .i64 v.i :: .int .i64 v.p :: vals l := rfl
    rw [e, show (j + 1) * 2 = (j * 2) + 1 + 1 from by omega]
    simpa using ih
/-- A row of validators that the call owns. -/
abbrev OwnV (w : World) (B : Nat) (v : Value) (l : List V) : Prop := w.ownsRow B 34 2 v l.length (vals l)
theorem OwnV.o {w : World} {B : Nat} {v : Value} {l : List V} (h : OwnV w B v l) : ∃ a cap, v = .slice a l.length cap ∧ VO w a l ∧ l.length ≤ cap ∧ cap ≤ 9223372036854775807 := by
  have h' := h
  rcases h.2 with ⟨rfl, hn⟩ | ⟨g, cap, cur, rfl, _, hg, hnc, hcm, _⟩
  · exact ⟨none, 0, by rw [hn], .inl hn, by omega, by omega⟩
  · refine ⟨some ⟨g, 0, none⟩, cap, rfl, .inr ⟨g, 0, rfl, fun j hj => ?_⟩, hnc, hcm⟩
    obtain ⟨e1, e2⟩ := vals_at l j hj
    rw [Nat.zero_add, h'.cellAt (j * 2) (by omega), h'.cellAt (j * 2 + 1) (by omega), e1, e2]
    exact ⟨rfl, rfl⟩
theorem OwnV.nil (w : World) (B : Nat) : OwnV w B (.slice none 0 0) [] := ⟨rfl, .inl ⟨rfl, rfl⟩⟩
theorem own_snocV {w : World} {B : Nat} {v : Value} {l : List V} {x : V} (h : w.ownsRow B 34 2 v (l.length + 1) (vals l ++ vals [x])) : OwnV w B v (l ++ [x]) := by
  unfold OwnV
  rw [vals_append, List.length_append]; exact h
/-- One validator just laid. -/
theorem one_val (w : World) (v : V) (g : Nat) (hg : g = w.heap.size) : ∀ j u, (vals [v])[j]? = some u → (w.alloc (.cells #[.int .i64 v.i, .int .i64 v.p] 34)).cell? ((⟨g, 0, none⟩ : Addr).add j) = some u := by
  intro j u hj
  subst hg
  rw [add_at, cell_of_row _ _ j #[.int .i64 v.i, .int .i64 v.p] 34 (0, 0) (heap_alloc_new _ _)]
  rw [← hj]; simp [vals]
end Go.Proofs.Ytaeokecodejpdaa
