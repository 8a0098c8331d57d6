/- What an asking and a sync keep of a right signer, in plain terms. Conditions: none of ours. -/
import Derived.Test.YtmjlpdmdpagggaaAn14
namespace Go.Proofs.Ytmjlpdmdpagggaa
open Go.RowKit
open Num
set_option linter.unusedVariables false
theorem sOk_iff (x : Sg) : sOk x = true ↔ inIs x.v 1 99 = true ∧ gOk x.d = true ∧ gOk x.m = true ∧ (x.p = true ∨ x.d = x.m) ∧ (x.p = true → x.m ≠ gz) ∧ x.o.length ≤ 60 ∧ ∀ y ∈ x.o, voB y = true ∧ y.v = x.v := by
  unfold sOk
  simp only [Bool.and_eq_true, Bool.or_eq_true, Bool.not_eq_true', decide_eq_true_eq, List.all_eq_true]
  constructor
  · rintro ⟨h1, h2, h3, h4, h5, h6, h7⟩
    refine ⟨h1, h2, h3, ?_, ?_, h6, fun y hy => ?_⟩
    · rcases h4 with h | h
      · exact .inl h
      · exact .inr (geB_iff.1 h)
    · intro hp e
      rcases h5 with h | h
      · rw [hp] at h; cases h
      · rw [e] at h; rw [geB_iff.2 rfl] at h; cases h
    · have := h7 y hy
      unfold outB at this
      simpa using this
  · rintro ⟨h1, h2, h3, h4, h5, h6, h7⟩
    refine ⟨h1, h2, h3, ?_, ?_, h6, fun y hy => ?_⟩
    · rcases h4 with h | h
      · exact .inl h
      · exact .inr (geB_iff.2 h)
    · cases hp : x.p
      · exact .inl rfl
      · refine .inr ?_
        cases he : geB x.m gz
        · rfl
        · exact absurd (geB_iff.1 he) (h5 hp)
    · have := h7 y hy
      unfold outB
      simpa using this
theorem gOk_of {y : Vt} (h : voB y = true) : gOk (ofV y) = true ∧ ofV y ≠ gz := by
  have h1 := (voB_iff _).1 h
  constructor
  · unfold gOk
    rw [Bool.or_eq_true]
    refine .inr ((voB_iff _).2 ⟨h1.1, h1.2.1, h1.2.2.1, h1.2.2.2.1, (show (1 : Int) ≤ 1 ∧ (1 : Int) ≤ 99 by decide)⟩)
  · intro e
    have : (ofV y).h = gz.h := by rw [e]
    have h2 : y.h = 0 := this
    omega
theorem gvo_ok {g : Gt} {n : Int} (h : gOk g = true) (h0 : g ≠ gz) (hn : inIs n 1 99 = true) : voB (gvo g n) = true := by
  unfold gOk at h
  rcases Bool.or_eq_true_iff.1 h with h | h
  · exact absurd (geB_iff.1 h) h0
  · have h1 := (voB_iff _).1 h
    exact (voB_iff _).2 ⟨h1.1, h1.2.1, h1.2.2.1, h1.2.2.2.1, (in_iff _ _ _).1 hn⟩
theorem ask_right {x : Sg} {y : Vt} (h : sOk x = true) : sOk (askS x y).1 = true := by
  cases hp : x.p
  · by_cases hv : y.v = x.v
    · by_cases h60 : x.o.length < 60
      · have h' := (sOk_iff x).1 h
        by_cases hm : mayS x.m y = 0
        · rw [askS_ok h hp hv h60 hm]
          have hy := (may_ne (g := x.m) (x := y) (by rw [hm]; decide)).2
          exact (sOk_iff _).2 ⟨h'.1, h'.2.1, (gOk_of hy).1, .inl rfl, fun _ => (gOk_of hy).2, h'.2.2.2.2.2.1, h'.2.2.2.2.2.2⟩
        · by_cases h1 : mayS x.m y = 1
          · rw [askS_same h hp hv h60 h1]
            have hy := (may_ne (g := x.m) (x := y) (by rw [h1]; decide)).2
            refine (sOk_iff _).2 ⟨h'.1, h'.2.1, h'.2.2.1, h'.2.2.2.1, h'.2.2.2.2.1, ?_, fun z hz => ?_⟩
            · show (x.o ++ [y]).length ≤ 60; simp; omega
            · rcases List.mem_append.1 hz with hz | hz
              · exact h'.2.2.2.2.2.2 z hz
              · rw [List.mem_singleton.1 hz]; exact ⟨hy, hv⟩
          · rw [askS_rest h hp hv h60 hm h1]; exact h
      · rw [askS_full h h60]; exact h
    · rw [askS_other h hv]; exact h
  · rw [askS_pend h hp]; exact h
theorem syn_right {x : Sg} (h : sOk x = true) : sOk (synS x).1 = true ∧ (synS x).2 = x.p := by
  unfold synS
  rw [h, cond_true]
  cases hp : x.p
  · exact ⟨h, rfl⟩
  · have h' := (sOk_iff x).1 h
    refine ⟨(sOk_iff _).2 ⟨h'.1, h'.2.2.1, h'.2.2.1, .inr rfl, (fun e => by cases e), ?_, ?_⟩, rfl⟩
    · show (synO x).length ≤ 60
      unfold synO; split
      · simp; omega
      · exact h'.2.2.2.2.2.1
    · intro z hz
      have hz' : z ∈ synO x := hz
      unfold synO at hz'
      split at hz'
      · rcases List.mem_append.1 hz' with hz' | hz'
        · exact h'.2.2.2.2.2.2 z hz'
        · rw [List.mem_singleton.1 hz']
          exact ⟨gvo_ok h'.2.2.1 (h'.2.2.2.2.1 hp) h'.1, rfl⟩
      · exact h'.2.2.2.2.2.2 z hz'
theorem fall_right {x : Sg} (h : sOk x = true) : sOk (fallS x).1 = true ∧ (fallS x).2 = true := by
  unfold fallS
  rw [h, cond_true]
  have h' := (sOk_iff x).1 h
  exact ⟨(sOk_iff _).2 ⟨h'.1, h'.2.1, h'.2.1, .inr rfl, (fun e => by cases e), h'.2.2.2.2.2⟩, rfl⟩
/-- What an answer keeps: all but the guard in mind where it is held, and then it waits. -/
theorem ask_keeps {x : Sg} {y : Vt} (h : sOk x = true) : (askS x y).1.d = x.d ∧ ((askS x y).2 = 0 ∧ (askS x y).1.p = true ∨ (askS x y).2 ≠ 0 ∧ (askS x y).1.m = x.m) := by
  cases hp : x.p
  · by_cases hv : y.v = x.v
    · by_cases h60 : x.o.length < 60
      · by_cases hm : mayS x.m y = 0
        · rw [askS_ok h hp hv h60 hm]; exact ⟨rfl, .inl ⟨rfl, rfl⟩⟩
        · by_cases h1 : mayS x.m y = 1
          · rw [askS_same h hp hv h60 h1]; exact ⟨rfl, .inr ⟨(show (1 : Int) ≠ 0 by decide), rfl⟩⟩
          · rw [askS_rest h hp hv h60 hm h1]; exact ⟨rfl, .inr ⟨hm, rfl⟩⟩
      · rw [askS_full h h60]; exact ⟨rfl, .inr ⟨(show (2 : Int) ≠ 0 by decide), rfl⟩⟩
    · rw [askS_other h hv]; exact ⟨rfl, .inr ⟨(show (2 : Int) ≠ 0 by decide), rfl⟩⟩
  · rw [askS_pend h hp]; exact ⟨rfl, .inr ⟨(show (2 : Int) ≠ 0 by decide), rfl⟩⟩
theorem ask_v {x : Sg} {y : Vt} (h : sOk x = false) : (askS x y).1.v = 0 := by rw [askS_no h]; rfl
end Go.Proofs.Ytmjlpdmdpagggaa
