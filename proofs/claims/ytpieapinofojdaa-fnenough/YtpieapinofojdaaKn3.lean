/- Plain facts: two sets that are enough have more than a third in common; enough stays enough with more; of no Go text. No conditions. -/
import Derived.Test.YtpieapinofojdaaKn
namespace Go.Proofs.Ytpieapinofojdaa.Num
set_option linter.unusedVariables false
/-- Those who are among both. -/
def both (l : List V) (a b : List Int) : List V := l.filter fun v => hasI a v.i && hasI b v.i
theorem both_snoc (l : List V) (a b : List Int) (k : Nat) (h : k < l.length) : pw (both (l.take (k + 1)) a b) = pw (both (l.take k) a b) + (if (hasI a l[k].i && hasI b l[k].i) = true then l[k].p else 0) := by
  unfold both
  rw [List.take_succ_eq_append_getElem h, List.filter_append, pw_append]
  congr 1
  simp only [List.filter_cons, List.filter_nil]
  split <;> simp [pw]
theorem pw_wide : ∀ m : List V, (∀ v ∈ m, -1 ≤ v.p ∧ v.p ≤ 1001) → -(m.length : Int) ≤ pw m ∧ pw m ≤ 1001 * (m.length : Int)
  | [], _ => by simp [pw]
  | v :: m, h => by
    have ih := pw_wide m (fun x hx => h x (List.mem_cons_of_mem _ hx))
    have := h v (List.mem_cons_self ..)
    have e : pw (v :: m) = v.p + pw m := by simp [pw]
    rw [e, List.length_cons]; omega
theorem both_bound {l : List V} (h : ∀ v ∈ l, -1 ≤ v.p ∧ v.p ≤ 1001) (h8 : l.length ≤ 8) (a b : List Int) (k : Nat) : -8 ≤ pw (both (l.take k) a b) ∧ pw (both (l.take k) a b) ≤ 8008 := by
  have h1 := pw_wide (both (l.take k) a b) (fun v hv => h v (List.mem_of_mem_take (List.mem_filter.1 hv).1))
  have h2 : (both (l.take k) a b).length ≤ 8 := by
    have := List.length_filter_le (fun v : V => hasI a v.i && hasI b v.i) (l.take k)
    have := List.length_take_le' k l
    unfold both; omega
  omega
theorem incl_excl : ∀ (l : List V) (a b : List Int), (∀ v ∈ l, 1 ≤ v.p ∧ v.p ≤ 1000) → pw (among l a) + pw (among l b) ≤ pw l + pw (both l a b)
  | [], a, b, _ => by simp [among, both, pw]
  | v :: l, a, b, h => by
    have ih := incl_excl l a b (fun x hx => h x (List.mem_cons_of_mem _ hx))
    have hv := h v (List.mem_cons_self ..)
    have e : ∀ m : List V, pw (v :: m) = v.p + pw m := fun m => by simp [pw]
    unfold among both at ih ⊢
    simp only [List.filter_cons]
    cases hasI a v.i <;> cases hasI b v.i <;> simp [e] <;> omega
theorem third {l : List V} {a b : List Int} (ha : enough l a = true) (hb : enough l b = true) : powerOf l < 3 * pw (both l a b) := by
  unfold enough at ha hb
  simp only [Bool.and_eq_true, decide_eq_true_eq] at ha hb
  have := incl_excl l a b (mem_ok ha.1)
  unfold powerOf
  rw [ha.1, cond_true]
  omega
theorem among_le : ∀ (l : List V) (a b : List Int), (∀ v ∈ l, 1 ≤ v.p ∧ v.p ≤ 1000) → pw (among l a) ≤ pw (among l (a ++ b))
  | [], a, b, _ => by simp [among, pw]
  | v :: l, a, b, h => by
    have ih := among_le l a b (fun x hx => h x (List.mem_cons_of_mem _ hx))
    have hv := h v (List.mem_cons_self ..)
    have e : ∀ m : List V, pw (v :: m) = v.p + pw m := fun m => by simp [pw]
    have hab : hasI (a ++ b) v.i = (hasI a v.i || hasI b v.i) := by simp [hasI, Bool.decide_or]
    unfold among at ih ⊢
    simp only [List.filter_cons, hab]
    cases hasI a v.i <;> cases hasI b v.i <;> simp [e] <;> omega
theorem more {l : List V} {a b : List Int} (ha : enough l a = true) : enough l (a ++ b) = true := by
  unfold enough at ha ⊢
  simp only [Bool.and_eq_true, decide_eq_true_eq] at ha ⊢
  have := among_le l a b (mem_ok ha.1)
  exact ⟨ha.1, by omega⟩
end Go.Proofs.Ytpieapinofojdaa.Num
