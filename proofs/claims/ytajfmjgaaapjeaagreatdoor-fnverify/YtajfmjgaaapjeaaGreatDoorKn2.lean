/- Plain facts on validators as texts: shown and read; of no Go text. No conditions. -/
import Derived.Test.YtajfmjgaaapjeaaGreatDoorG3
namespace Go.Proofs.YtajfmjgaaapjeaaGreatDoor.Num
set_option linter.unusedVariables false
/-- How many, and of each who and how much. -/
def shB (n : Int) (l : List V) : ByteArray := l.foldl (fun s v => s ++ (var v.i ++ var v.p)) (var n)
theorem shB_snoc (n : Int) (l : List V) (k : Nat) (h : k < l.length) : shB n (l.take (k + 1)) = shB n (l.take k) ++ (var l[k].i ++ var l[k].p) := by
  unfold shB
  rw [List.take_succ_eq_append_getElem h, List.foldl_append]; rfl
theorem shB_size (n : Int) (l : List V) : ∀ k, k ≤ l.length → (shB n (l.take k)).size ≤ 7 + 14 * k
  | 0, _ => by have := var_size n; simpa [shB] using this
  | k + 1, h => by
    have ih := shB_size n l k (by omega)
    have h1 := var_size l[k].i
    have h2 := var_size l[k].p
    rw [shB_snoc n l k h, ByteArray.size_append, ByteArray.size_append]; omega
theorem shB_ge (n : Int) (l : List V) : ∀ k, k ≤ l.length → (var n).size ≤ (shB n (l.take k)).size
  | 0, _ => by simp [shB]
  | k + 1, h => by
    have ih := shB_ge n l k (by omega)
    rw [shB_snoc n l k h, ByteArray.size_append]; omega
def showV (l : List V) : ByteArray := bif vOk l then shB l.length l else ⟨#[]⟩
theorem showV_no {l : List V} (h : vOk l = false) : showV l = ⟨#[]⟩ := by unfold showV; rw [h]; rfl
theorem showV_yes {l : List V} (h : vOk l = true) : showV l = shB l.length l := by unfold showV; rw [h]; rfl
theorem showV_size (l : List V) : (showV l).size ≤ 105 := by
  cases h : vOk l with
  | false => rw [showV_no h]; show 0 ≤ 105; omega
  | true =>
    have := shB_size l.length l l.length (Nat.le_refl _)
    have := (len_ok h).2
    rw [showV_yes h]
    rw [List.take_length] at *
    omega
/-- The validator that is read from a place on, and where the next one begins. -/
def pairAt (s : ByteArray) (a : Nat) : V := ⟨(rvAt s a).1, (rvAt s (a + (rvAt s a).2)).1⟩
def nxt (s : ByteArray) (a : Nat) : Nat := a + (rvAt s a).2 + (rvAt s (a + (rvAt s a).2)).2
def atJ (s : ByteArray) (a : Nat) : Nat → Nat
  | 0 => a
  | j + 1 => nxt s (atJ s a j)
def rdl (s : ByteArray) (a : Nat) : Nat → List V
  | 0 => []
  | j + 1 => rdl s a j ++ [pairAt s (atJ s a j)]
theorem rdl_length (s : ByteArray) (a : Nat) : ∀ j, (rdl s a j).length = j
  | 0 => rfl
  | j + 1 => by rw [rdl, List.length_append, rdl_length s a j]; rfl
theorem rdl_at (s : ByteArray) (a : Nat) : ∀ c j (hj : j < c) (h : j < (rdl s a c).length), (rdl s a c)[j] = pairAt s (atJ s a j)
  | c + 1, j, hj, h => by
    have hl := rdl_length s a c
    by_cases e : j = c
    · subst e
      have : (rdl s a (j + 1))[j]? = some (pairAt s (atJ s a j)) := by
        rw [rdl, List.getElem?_append_right (by omega), hl]; simp
      rw [List.getElem?_eq_getElem h] at this
      exact Option.some.inj this
    · have ih := rdl_at s a c j (by omega) (by omega)
      have : (rdl s a (c + 1))[j]? = some (pairAt s (atJ s a j)) := by
        rw [rdl, List.getElem?_append_left (by omega), List.getElem?_eq_getElem (by omega), ih]
      rw [List.getElem?_eq_getElem h] at this
      exact Option.some.inj this
theorem nxt_le (s : ByteArray) (a : Nat) (h : a ≤ s.size) : nxt s a ≤ s.size := by
  have h1 := (rvAt_bound s a).1
  have h2 := (rvAt_bound s (a + (rvAt s a).2)).1
  unfold nxt; omega
theorem atJ_le (s : ByteArray) (a : Nat) (h : a ≤ s.size) : ∀ j, atJ s a j ≤ s.size
  | 0 => h
  | j + 1 => nxt_le s _ (atJ_le s a h j)
/-- Where a number is missing nobody is right. -/
theorem rdl_bad (s : ByteArray) (a c j : Nat) (hj : j < c) (h : (pairAt s (atJ s a j)).i < 1 ∨ (pairAt s (atJ s a j)).p < 1) : vOk (rdl s a c) = false := by
  have hl := rdl_length s a c
  have hj' : j < (rdl s a c).length := by omega
  cases ho : vOk (rdl s a c) with
  | false => rfl
  | true =>
    have := good_of_ok ho hj'
    rw [rdl_at s a c j hj hj'] at this
    omega
/-- The validators of which s is made. -/
def readV (s : ByteArray) : List V × Bool :=
  bif decide ((rvAt s 0).2 = 0) || decide (7 < (rvAt s 0).1) then ([], false) else
  bif decide (showV (rdl s (rvAt s 0).2 (rvAt s 0).1.toNat) = s) then (rdl s (rvAt s 0).2 (rvAt s 0).1.toNat, true) else ([], false)
theorem readV_no0 {s : ByteArray} (h : (rvAt s 0).2 = 0 ∨ 7 < (rvAt s 0).1) : readV s = ([], false) := by
  unfold readV
  rw [show (decide ((rvAt s 0).2 = 0) || decide (7 < (rvAt s 0).1)) = true from by simpa using h]; rfl
theorem readV_eq {s : ByteArray} (h0 : 0 < (rvAt s 0).2) (h7 : (rvAt s 0).1 ≤ 7) : readV s = bif decide (showV (rdl s (rvAt s 0).2 (rvAt s 0).1.toNat) = s) then (rdl s (rvAt s 0).2 (rvAt s 0).1.toNat, true) else ([], false) := by
  unfold readV
  rw [show (decide ((rvAt s 0).2 = 0) || decide (7 < (rvAt s 0).1)) = false from by simp; omega]; rfl
theorem read_ne {s : ByteArray} {l : List V} (h0 : 0 < s.size) (h : vOk l = false) : showV l ≠ s := by
  intro e
  rw [showV_no h] at e
  rw [← e] at h0
  exact absurd h0 (Nat.lt_irrefl 0)
theorem readV_bad {s : ByteArray} (h0 : 0 < (rvAt s 0).2) (h7 : (rvAt s 0).1 ≤ 7) (h : vOk (rdl s (rvAt s 0).2 (rvAt s 0).1.toNat) = false) : readV s = ([], false) := by
  have hs := (rvAt_bound s 0).1
  rw [readV_eq h0 h7, decide_eq_false (read_ne (by omega) h)]; rfl
theorem readV_len (s : ByteArray) : (readV s).1.length ≤ 7 := by
  by_cases h : (rvAt s 0).2 = 0 ∨ 7 < (rvAt s 0).1
  · rw [readV_no0 h]; simp
  · rw [readV_eq (by omega) (by omega)]
    cases decide (showV (rdl s (rvAt s 0).2 (rvAt s 0).1.toNat) = s) with
    | false => simp
    | true => rw [cond_true, rdl_length]; omega
end Go.Proofs.YtajfmjgaaapjeaaGreatDoor.Num
