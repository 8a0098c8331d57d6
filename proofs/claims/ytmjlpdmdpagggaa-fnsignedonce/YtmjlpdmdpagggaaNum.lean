/- Plain facts on numbers and byte lists, of no Go text: the value of bytes read highest first. No conditions. -/
namespace Go.Proofs.Ytmjlpdmdpagggaa.Num
/-- The number whose bytes, highest first, are l. -/
def be (l : List UInt8) : Int := l.foldl (fun n c => n * 256 + (c.toNat : Int)) 0
theorem be_snoc (l : List UInt8) (c : UInt8) : be (l ++ [c]) = be l * 256 + (c.toNat : Int) := by
  simp [be, List.foldl_append]
theorem take_snoc (s : ByteArray) (k : Nat) (h : k < s.size) : s.data.toList.take (k + 1) = s.data.toList.take k ++ [s[k]] := by
  rw [List.take_succ_eq_append_getElem (by simpa using h)]; rfl
theorem be_step (s : ByteArray) (k : Nat) (h : k < s.size) : be (s.data.toList.take (k + 1)) = be (s.data.toList.take k) * 256 + (s[k].toNat : Int) := by
  rw [take_snoc s k h, be_snoc]
theorem be_nonneg (l : List UInt8) : 0 ≤ be l ∧ be l < 256 ^ l.length := by
  unfold be
  suffices h : ∀ (l : List UInt8) (a : Int) (k : Nat), 0 ≤ a → a < 256 ^ k → 0 ≤ l.foldl (fun n c => n * 256 + (c.toNat : Int)) a ∧ l.foldl (fun n c => n * 256 + (c.toNat : Int)) a < 256 ^ (k + l.length) by
    have := h l 0 0 (by omega) (by decide)
    simpa using this
  intro l
  induction l with
  | nil => intro a k h0 h1; exact ⟨h0, h1⟩
  | cons c l ih =>
    intro a k h0 h1
    have hc : (c.toNat : Int) < 256 := by have := c.toNat_lt; omega
    have hp : (256 : Int) ^ (k + 1) = 256 ^ k * 256 := Int.pow_succ ..
    have := ih (a * 256 + (c.toNat : Int)) (k + 1) (by omega) (by omega)
    rw [List.length_cons, show k + (l.length + 1) = k + 1 + l.length from by omega]
    exact this
theorem pow_le7 (k : Nat) (h : k ≤ 7) : (256 : Int) ^ k ≤ 72057594037927936 := by
  have : k = 0 ∨ k = 1 ∨ k = 2 ∨ k = 3 ∨ k = 4 ∨ k = 5 ∨ k = 6 ∨ k = 7 := by omega
  rcases this with h | h | h | h | h | h | h | h <;> subst h <;> decide
theorem be_bound (s : ByteArray) (k : Nat) (h : k ≤ 6) : 0 ≤ be (s.data.toList.take k) ∧ be (s.data.toList.take k) ≤ 281474976710656 := by
  have := be_nonneg (s.data.toList.take k)
  have hl : (s.data.toList.take k).length ≤ 6 := by have := List.length_take_le k s.data.toList; omega
  have : (256 : Int) ^ (s.data.toList.take k).length ≤ 281474976710656 := by
    revert hl; generalize (s.data.toList.take k).length = m; intro hl
    have : m = 0 ∨ m = 1 ∨ m = 2 ∨ m = 3 ∨ m = 4 ∨ m = 5 ∨ m = 6 := by omega
    rcases this with h | h | h | h | h | h | h <;> subst h <;> decide
  omega
/-- Is there a number of that width at the head of s? -/
def rfOk (s : ByteArray) (width : Int) : Bool := decide (1 ≤ width) && decide (width ≤ 7) && decide (width ≤ (s.size : Int))
def rfVal (s : ByteArray) (width : Int) : Int := bif rfOk s width then be (s.data.toList.take width.toNat) else 0
theorem rf_yes (s : ByteArray) (width : Int) (h1 : 1 ≤ width) (h2 : width ≤ 7) (h3 : width ≤ (s.size : Int)) : rfOk s width = true := by
  simp [rfOk, h1, h2, h3]
theorem rf_no (s : ByteArray) (width : Int) (h : width < 1 ∨ 7 < width ∨ (s.size : Int) < width) : rfOk s width = false ∧ rfVal s width = 0 := by
  have : rfOk s width = false := by
    unfold rfOk
    rcases h with h | h | h
    · simp [show ¬ (1 ≤ width) from by omega]
    · simp [show ¬ (width ≤ 7) from by omega]
    · simp [show ¬ (width ≤ (s.size : Int)) from by omega]
  exact ⟨this, by simp [rfVal, this]⟩
/-- The lowest k bytes of n, the highest first. -/
def lo (n : Int) : Nat → List UInt8
  | 0 => []
  | k + 1 => UInt8.ofNat ((n / 256 ^ k) % 256).toNat :: lo n k
theorem length_lo (n : Int) : ∀ k, (lo n k).length = k
  | 0 => rfl
  | k + 1 => by simp [lo, length_lo n k]
theorem div_pow_succ (n : Int) (k : Nat) : n / 256 ^ k / 256 = n / 256 ^ (k + 1) := by
  rw [Int.ediv_ediv_of_nonneg (Int.pow_nonneg (by omega)), Int.pow_succ]
theorem div_pow_nonneg (n : Int) (k : Nat) (h : 0 ≤ n) : 0 ≤ n / 256 ^ k := Int.ediv_nonneg h (Int.pow_nonneg (by omega))
theorem div_pow_le (n : Int) (k : Nat) (h : 0 ≤ n) : n / 256 ^ k ≤ n := Int.ediv_le_self _ h
theorem div_pow_pos (n : Int) (k : Nat) : 0 < n / 256 ^ k ↔ 256 ^ k ≤ n := by
  have hp : (0 : Int) < 256 ^ k := Int.pow_pos (by omega)
  rw [Int.lt_iff_add_one_le, Int.le_ediv_iff_mul_le hp]; simp
/-- Does n fit into width bytes? -/
def fxOk (n width : Int) : Bool := decide (1 ≤ width) && decide (width ≤ 7) && decide (0 ≤ n) && decide (n / 256 ^ width.toNat ≤ 0)
def fx (n width : Int) : ByteArray := bif fxOk n width then ⟨(lo n width.toNat).toArray⟩ else ⟨#[]⟩
theorem fx_no (n width : Int) (h : width < 1 ∨ 7 < width ∨ n < 0 ∨ 0 < n / 256 ^ width.toNat) : fx n width = ⟨#[]⟩ := by
  have : fxOk n width = false := by
    unfold fxOk
    rcases h with h | h | h | h
    · simp [show ¬ (1 ≤ width) from by omega]
    · simp [show ¬ (width ≤ 7) from by omega]
    · simp [show ¬ (0 ≤ n) from by omega]
    · simp [show ¬ (n / 256 ^ width.toNat ≤ 0) from by omega]
  simp [fx, this]
theorem fx_yes (n width : Int) (h1 : 1 ≤ width) (h2 : width ≤ 7) (h3 : 0 ≤ n) (h4 : n / 256 ^ width.toNat ≤ 0) : fx n width = ⟨(lo n width.toNat).toArray⟩ := by
  simp [fx, fxOk, h1, h2, h3, h4]
theorem size_mk (l : List UInt8) : (ByteArray.mk l.toArray).size = l.length := by simp [ByteArray.size]
theorem cons_mk (c : UInt8) (l : List UInt8) : (ByteArray.mk #[c]) ++ (ByteArray.mk l.toArray) = ByteArray.mk (c :: l).toArray := by
  apply ByteArray.ext; simp
theorem two_pow8 (m : Nat) : (2 : Int) ^ (8 * m) = 256 ^ m := by
  rw [Int.pow_mul]; rfl
/-- What a row of m bytes holds when the first k of F have been laid. -/
def rowPart (F : List UInt8) (k m : Nat) : List UInt8 := F.take k ++ List.replicate (m - k) 0
theorem rowPart_zero (F : List UInt8) (m : Nat) : rowPart F 0 m = List.replicate m 0 := by simp [rowPart]
theorem rowPart_all (F : List UInt8) (m : Nat) (h : F.length = m) : rowPart F m m = F := by simp [rowPart, ← h]
theorem length_rowPart (F : List UInt8) (k m : Nat) (h : F.length = m) (hk : k ≤ m) : (rowPart F k m).length = m := by simp [rowPart]; omega
theorem lo_at (n : Int) : ∀ (m k : Nat) (_ : k < m), (lo n m)[k]? = some (UInt8.ofNat ((n / 256 ^ (m - 1 - k)) % 256).toNat)
  | 0, k, h => by omega
  | m + 1, 0, h => by simp [lo]
  | m + 1, k + 1, h => by
    have := lo_at n m k (by omega)
    simp only [lo, List.getElem?_cons_succ, this]
    rw [show m + 1 - 1 - (k + 1) = m - 1 - k from by omega]
end Go.Proofs.Ytmjlpdmdpagggaa.Num
