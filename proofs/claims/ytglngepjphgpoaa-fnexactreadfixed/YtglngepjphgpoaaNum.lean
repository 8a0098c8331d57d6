/- Plain facts on numbers and byte lists, of no Go text: the value of bytes read highest first. No conditions. -/
namespace Go.Proofs.Ytglngepjphgpoaa.Num
/-- The number whose bytes, highest first, are l. -/
def be (l : List UInt8) : Int := l.foldl (fun n c => n * 256 + (c.toNat : Int)) 0
theorem be_snoc (l : List UInt8) (c : UInt8) : be (l ++ [c]) = be l * 256 + (c.toNat : Int) := by
  simp [be, List.foldl_append]
theorem take_snoc (s : ByteArray) (k : Nat) (h : k < s.size) : s.data.toList.take (k + 1) = s.data.toList.take k ++ [s[k]] := by
  rw [List.take_succ_eq_append_getElem (by simpa using h)]; rfl
theorem be_step (s : ByteArray) (k : Nat) (h : k < s.size) : be (s.data.toList.take (k + 1)) = be (s.data.toList.take k) * 256 + (s[k].toNat : Int) := by
  rw [take_snoc s k h, be_snoc]
theorem be_nonneg (l : List UInt8) : 0 ≤ be l ∧ be l < 256 ^ l.length := by
  unfold be
  suffices h : ∀ (l : List UInt8) (a : Int) (k : Nat), 0 ≤ a → a < 256 ^ k → 0 ≤ l.foldl (fun n c => n * 256 + (c.toNat : Int)) a ∧ l.foldl (fun n c => n * 256 + (c.toNat : Int)) a < 256 ^ (k + l.length) by
    have := h l 0 0 (by omega) (by decide)
    simpa using this
  intro l
  induction l with
  | nil => intro a k h0 h1; exact ⟨h0, h1⟩
  | cons c l ih =>
    intro a k h0 h1
    have hc : (c.toNat : Int) < 256 := by have := c.toNat_lt; omega
    have hp : (256 : Int) ^ (k + 1) = 256 ^ k * 256 := Int.pow_succ ..
    have := ih (a * 256 + (c.toNat : Int)) (k + 1) (by omega) (by omega)
    rw [List.length_cons, show k + (l.length + 1) = k + 1 + l.length from by omega]
    exact this
theorem pow_le7 (k : Nat) (h : k ≤ 7) : (256 : Int) ^ k ≤ 72057594037927936 := by
  have : k = 0 ∨ k = 1 ∨ k = 2 ∨ k = 3 ∨ k = 4 ∨ k = 5 ∨ k = 6 ∨ k = 7 := by omega
  rcases this with h | h | h | h | h | h | h | h <;> subst h <;> decide
theorem be_bound (s : ByteArray) (k : Nat) (h : k ≤ 6) : 0 ≤ be (s.data.toList.take k) ∧ be (s.data.toList.take k) ≤ 281474976710656 := by
  have := be_nonneg (s.data.toList.take k)
  have hl : (s.data.toList.take k).length ≤ 6 := by have := List.length_take_le k s.data.toList; omega
  have : (256 : Int) ^ (s.data.toList.take k).length ≤ 281474976710656 := by
    revert hl; generalize (s.data.toList.take k).length = m; intro hl
    have : m = 0 ∨ m = 1 ∨ m = 2 ∨ m = 3 ∨ m = 4 ∨ m = 5 ∨ m = 6 := by omega
    rcases this with h | h | h | h | h | h | h <;> subst h <;> decide
  omega
/-- Is there a number of that width at the head of s? -/
def rfOk (s : ByteArray) (width : Int) : Bool := decide (1 ≤ width) && decide (width ≤ 7) && decide (width ≤ (s.size : Int))
def rfVal (s : ByteArray) (width : Int) : Int := bif rfOk s width then be (s.data.toList.take width.toNat) else 0
theorem rf_yes (s : ByteArray) (width : Int) (h1 : 1 ≤ width) (h2 : width ≤ 7) (h3 : width ≤ (s.size : Int)) : rfOk s width = true := by
  simp [rfOk, h1, h2, h3]
theorem rf_no (s : ByteArray) (width : Int) (h : width < 1 ∨ 7 < width ∨ (s.size : Int) < width) : rfOk s width = false ∧ rfVal s width = 0 := by
  have : rfOk s width = false := by
    unfold rfOk
    rcases h with h | h | h
    · simp [show ¬ (1 ≤ width) from by omega]
    · simp [show ¬ (width ≤ 7) from by omega]
    · simp [show ¬ (width ≤ (s.size : Int)) from by omega]
  exact ⟨this, by simp [rfVal, this]⟩
end Go.Proofs.Ytglngepjphgpoaa.Num
