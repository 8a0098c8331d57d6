/- Trust in time in plain terms: what is right, when it expires, what is fresh, how much is left. -/
import Derived.Test.YtkmmnjiflnllbaaNum
namespace Go.Proofs.Ytkmmnjiflnllbaa
set_option linter.unusedVariables false
def inIs (x lo hi : Int) : Bool := decide (lo ≤ x) && decide (x ≤ hi)
theorem in_yes {x lo hi : Int} (h : lo ≤ x ∧ x ≤ hi) : inIs x lo hi = true := by unfold inIs; simp [h.1, h.2]
theorem in_no {x lo hi : Int} (h : ¬ (lo ≤ x ∧ x ≤ hi)) : inIs x lo hi = false := by unfold inIs; simp; omega
theorem in_iff (x lo hi : Int) : inIs x lo hi = true ↔ lo ≤ x ∧ x ≤ hi := by unfold inIs; simp
/-- A trust: its period and its slack. -/
structure T where
  p : Int
  s : Int
def tOk (t : T) : Bool := inIs t.p 1 100000 && inIs t.s 0 1000
theorem tOk_iff (t : T) : tOk t = true ↔ (1 ≤ t.p ∧ t.p ≤ 100000) ∧ (0 ≤ t.s ∧ t.s ≤ 1000) := by unfold tOk; rw [Bool.and_eq_true, in_iff, in_iff]
theorem tOk_no {t : T} (h : ¬ ((1 ≤ t.p ∧ t.p ≤ 100000) ∧ (0 ≤ t.s ∧ t.s ≤ 1000))) : tOk t = false := by
  cases e : tOk t with
  | false => rfl
  | true => exact absurd ((tOk_iff t).1 e) h
def isT (x : Int) : Bool := inIs x 0 1000000
def expT (t : T) (x : Int) : Int := if tOk t = true ∧ isT x = true then x + t.p else -1
theorem expT_yes {t : T} {x : Int} (h1 : tOk t = true) (h2 : isT x = true) : expT t x = x + t.p := if_pos ⟨h1, h2⟩
theorem expT_no {t : T} {x : Int} (h : tOk t = false ∨ isT x = false) : expT t x = -1 := by
  refine if_neg fun hc => ?_
  rcases h with h | h
  · rw [h] at hc; exact absurd hc.1 (by simp)
  · rw [h] at hc; exact absurd hc.2 (by simp)
theorem expT_bound (t : T) (x : Int) : -1 ≤ expT t x ∧ expT t x ≤ 1100000 := by
  unfold expT
  split
  · rename_i h
    have h1 := (tOk_iff t).1 h.1
    have h2 := (in_iff x 0 1000000).1 h.2
    omega
  · omega
def freshT (t : T) (x n : Int) : Bool := tOk t && (isT x && (isT n && (decide (n ≤ x + t.p) && decide (x ≤ n + t.s))))
def leftT (t : T) (x n : Int) : Int := if (tOk t = true ∧ isT x = true ∧ isT n = true) ∧ n < x + t.p then x + t.p - n else 0
/-- What is left below 0 too, as the program asks it. -/
def lastT (last n : Int) : Int := if isT n = true then last - n else -1
theorem left_last (t : T) (x n : Int) : leftT t x n = max 0 (lastT (expT t x) n) := by
  unfold leftT lastT
  by_cases h3 : isT n = true
  · rw [if_pos h3]
    have h3' := (in_iff n 0 1000000).1 h3
    by_cases h12 : tOk t = true ∧ isT x = true
    · rw [expT_yes h12.1 h12.2]
      by_cases h4 : n < x + t.p
      · rw [if_pos ⟨⟨h12.1, h12.2, h3⟩, h4⟩]; omega
      · rw [if_neg (fun h => h4 h.2)]; omega
    · rw [if_neg (fun h => h12 ⟨h.1.1, h.1.2.1⟩)]
      have : expT t x = -1 := if_neg h12
      rw [this]; omega
  · rw [if_neg h3, if_neg (fun h => h3 h.1.2.2)]; rfl
theorem fresh_last (t : T) (x n : Int) : freshT t x n = (decide (0 ≤ lastT (expT t x) n) && decide (x ≤ n + t.s)) := by
  unfold freshT lastT
  cases h1 : tOk t with
  | false => rw [expT_no (.inl h1)]; cases h3 : isT n with
    | false => simp
    | true => have h3' := (in_iff n 0 1000000).1 h3; simp; omega
  | true => cases h2 : isT x with
    | false => rw [expT_no (.inr h2)]; cases h3 : isT n with
      | false => simp
      | true => have h3' := (in_iff n 0 1000000).1 h3; simp; omega
    | true =>
      rw [expT_yes h1 h2]
      cases h3 : isT n with
      | false => simp
      | true =>
        simp only [Bool.true_and, if_true]
        congr 1
        exact decide_eq_decide.2 (by omega)
/-- The nearest trust within the limits. -/
def near (t : T) : T := ⟨max 1 (min t.p 100000), max 0 (min t.s 1000)⟩
theorem near_ok (t : T) : tOk t = ((t.p == (near t).p) && (t.s == (near t).s)) := by
  have h : tOk t = true ↔ t.p = (near t).p ∧ t.s = (near t).s := by
    rw [tOk_iff]
    show _ ↔ t.p = max 1 (min t.p 100000) ∧ t.s = max 0 (min t.s 1000)
    omega
  cases e : tOk t with
  | true => have := h.1 e; simp [← this.1, ← this.2]
  | false =>
    cases e2 : ((t.p == (near t).p) && (t.s == (near t).s)) with
    | false => rfl
    | true =>
      rw [Bool.and_eq_true, beq_iff_eq, beq_iff_eq] at e2
      rw [h.2 e2] at e
      exact absurd e (by simp)
/-- What is left goes down by one with a tick; past the last tick nothing is fresh. -/
theorem left_pos {t : T} {x n : Int} (h : leftT t x n ≠ 0) : tOk t = true ∧ isT x = true ∧ isT n = true ∧ n < x + t.p ∧ leftT t x n = x + t.p - n := by
  unfold leftT at h ⊢
  split at h
  · rename_i g; rw [if_pos g]; exact ⟨g.1.1, g.1.2.1, g.1.2.2, g.2, rfl⟩
  · exact absurd rfl h
theorem left_exp {t : T} {x n : Int} (h : leftT t x n ≠ 0) : n + leftT t x n = expT t x := by
  obtain ⟨h1, h2, h3, h4, h5⟩ := left_pos h
  rw [h5, expT_yes h1 h2]; omega
theorem left_end {t : T} {x n : Int} (h : leftT t x n ≠ 0) : freshT t x (n + leftT t x n + 1) = false := by
  obtain ⟨h1, h2, h3, h4, h5⟩ := left_pos h
  rw [fresh_last, expT_yes h1 h2, h5]
  unfold lastT
  split
  · have : decide (0 ≤ x + t.p - (n + (x + t.p - n) + 1)) = false := by simp; omega
    rw [this]; rfl
  · rfl
theorem left_tick {t : T} {x n : Int} (h : leftT t x n ≠ 0) (hn : n < 1000000) : leftT t x (n + 1) = leftT t x n - 1 := by
  obtain ⟨h1, h2, h3, h4, h5⟩ := left_pos h
  have h3' := (in_iff n 0 1000000).1 h3
  have h6 : isT (n + 1) = true := in_yes (by omega)
  rw [h5]
  unfold leftT
  by_cases h7 : n + 1 < x + t.p
  · rw [if_pos ⟨⟨h1, h2, h6⟩, h7⟩]; omega
  · rw [if_neg (fun h => h7 h.2)]; omega
theorem left_bound (t : T) (x n : Int) : 0 ≤ leftT t x n ∧ leftT t x n ≤ 1100000 := by
  unfold leftT
  split
  · rename_i h
    have h1 := (tOk_iff t).1 h.1.1
    have h2 := (in_iff x 0 1000000).1 h.1.2.1
    have h3 := (in_iff n 0 1000000).1 h.1.2.2
    omega
  · omega
end Go.Proofs.Ytkmmnjiflnllbaa
