/- Plain facts on reading numbers of seven bits to a byte, of no Go text. No conditions. -/
import Derived.Test.YtdpjlfgfacjfeaaDoorVnum
namespace Go.Proofs.YtdpjlfgfacjfeaaDoor.Num
/-- What bytes say, seven bits each, the lowest first. -/
def val : List UInt8 → Int
  | [] => 0
  | c :: l => (c.toNat : Int) % 128 + 128 * val l
theorem val_bound : ∀ l : List UInt8, 0 ≤ val l ∧ val l < 128 ^ l.length
  | [] => by simp [val]
  | c :: l => by
    have := val_bound l
    have hp : (128 : Int) ^ (c :: l).length = 128 ^ l.length * 128 := by rw [List.length_cons, Int.pow_succ]
    rw [hp]; simp only [val]; omega
theorem val_snoc (c : UInt8) : ∀ l : List UInt8, val (l ++ [c]) = val l + (c.toNat : Int) % 128 * 128 ^ l.length
  | [] => by simp [val]
  | d :: l => by
    rw [List.cons_append, val, val_snoc c l, val, List.length_cons, Int.pow_succ, Int.mul_add]
    rw [show (128 : Int) * ((c.toNat : Int) % 128 * 128 ^ l.length) = (c.toNat : Int) % 128 * (128 ^ l.length * 128) from by
      rw [Int.mul_comm 128, Int.mul_assoc]]
    omega
def goodT : List UInt8 → Bool
  | [] => false
  | [c] => decide (0 < c.toNat) && decide (c.toNat < 128)
  | c :: d :: l => decide (128 ≤ c.toNat) && goodT (d :: l)
/-- Are these bytes just those of a number? -/
def good : List UInt8 → Bool
  | [] => false
  | [c] => decide (c.toNat < 128)
  | c :: d :: l => decide (128 ≤ c.toNat) && goodT (d :: l)
theorem goodT_pos : ∀ l, goodT l = true → 0 < val l
  | [], h => by simp [goodT] at h
  | [c], h => by simp [goodT] at h; simp [val]; omega
  | c :: d :: l, h => by
    simp [goodT] at h
    have := goodT_pos (d :: l) h.2
    rw [val]; omega
theorem ofNat_toNat (c : UInt8) : UInt8.ofNat c.toNat = c := by simp
theorem vl_goodT : ∀ (l : List UInt8) (f : Nat), goodT l = true → l.length ≤ f + 1 → vl f (val l) = l
  | [], f, h, _ => by simp [goodT] at h
  | [c], f, h, _ => by
    simp [goodT] at h
    have e : val [c] = (c.toNat : Int) := by simp [val]; omega
    rw [e, vl_small f _ (by omega), Int.toNat_natCast, ofNat_toNat]
  | c :: d :: l, f, h, hl => by
    simp [goodT] at h
    have hp := goodT_pos (d :: l) h.2
    have hc := c.toNat_lt
    obtain ⟨f, rfl⟩ : ∃ g, f = g + 1 := ⟨f - 1, by simp at hl; omega⟩
    have e : val (c :: d :: l) = (c.toNat : Int) % 128 + 128 * val (d :: l) := rfl
    rw [e, vl_great f _ (by omega), show ((c.toNat : Int) % 128 + 128 * val (d :: l)) / 128 = val (d :: l) from by omega,
      vl_goodT (d :: l) f h.2 (by simp at hl ⊢; omega), show (128 + ((c.toNat : Int) % 128 + 128 * val (d :: l)) % 128).toNat = c.toNat from by omega, ofNat_toNat]
theorem vl_good : ∀ (l : List UInt8) (f : Nat), good l = true → l.length ≤ f + 1 → vl f (val l) = l
  | [], f, h, _ => by simp [good] at h
  | [c], f, h, _ => by
    simp [good] at h
    have e : val [c] = (c.toNat : Int) := by simp [val]; omega
    rw [e, vl_small f _ (by omega), Int.toNat_natCast, ofNat_toNat]
  | c :: d :: l, f, h, hl => by
    simp [good] at h
    have hp := goodT_pos (d :: l) h.2
    have hc := c.toNat_lt
    obtain ⟨f, rfl⟩ : ∃ g, f = g + 1 := ⟨f - 1, by simp at hl; omega⟩
    have e : val (c :: d :: l) = (c.toNat : Int) % 128 + 128 * val (d :: l) := rfl
    rw [e, vl_great f _ (by omega), show ((c.toNat : Int) % 128 + 128 * val (d :: l)) / 128 = val (d :: l) from by omega,
      vl_goodT (d :: l) f h.2 (by simp at hl ⊢; omega), show (128 + ((c.toNat : Int) % 128 + 128 * val (d :: l)) % 128).toNat = c.toNat from by omega, ofNat_toNat]
theorem vl_cons (f : Nat) (n : Int) : ∃ c l, vl f n = c :: l := by
  cases f with
  | zero => exact ⟨_, _, rfl⟩
  | succ f => unfold vl; split <;> exact ⟨_, _, rfl⟩
theorem toNat_of (n : Int) (_h : 0 ≤ n) (_h' : n < 256) : (UInt8.ofNat n.toNat).toNat = n.toNat := by simp; omega
theorem goodT_vl : ∀ (f : Nat) (n : Int), 0 < n → n < 128 ^ (f + 1) → goodT (vl f n) = true
  | 0, n, h, h' => by
    have h'' : n < 128 := by simpa using h'
    simp only [vl, goodT, toNat_of n (by omega) (by omega)]
    simp; omega
  | f + 1, n, h, h' => by
    by_cases hs : n < 128
    · rw [vl_small _ _ hs]
      simp only [goodT, toNat_of n (by omega) (by omega)]
      simp; omega
    · rw [vl_great f n (by omega)]
      have hp : (128 : Int) ^ (f + 1 + 1) = 128 ^ (f + 1) * 128 := Int.pow_succ ..
      have ih := goodT_vl f (n / 128) (by omega) (by omega)
      obtain ⟨c, l, e⟩ := vl_cons f (n / 128)
      rw [e] at ih ⊢
      simp only [goodT, ih, toNat_of (128 + n % 128) (by omega) (by omega)]
      simp; omega
theorem good_vl : ∀ (f : Nat) (n : Int), 0 ≤ n → n < 128 ^ (f + 1) → good (vl f n) = true
  | 0, n, h, h' => by
    have h'' : n < 128 := by simpa using h'
    simp only [vl, good, toNat_of n (by omega) (by omega)]
    simp; omega
  | f + 1, n, h, h' => by
    by_cases hs : n < 128
    · rw [vl_small _ _ hs]
      simp only [good, toNat_of n (by omega) (by omega)]
      simp; omega
    · rw [vl_great f n (by omega)]
      have hp : (128 : Int) ^ (f + 1 + 1) = 128 ^ (f + 1) * 128 := Int.pow_succ ..
      have ih := goodT_vl f (n / 128) (by omega) (by omega)
      obtain ⟨c, l, e⟩ := vl_cons f (n / 128)
      rw [e] at ih ⊢
      simp only [good, ih, toNat_of (128 + n % 128) (by omega) (by omega)]
      simp; omega
theorem pow128_le (k : Nat) (h : k ≤ 7) : (128 : Int) ^ k ≤ 562949953421312 := by
  have : k = 0 ∨ k = 1 ∨ k = 2 ∨ k = 3 ∨ k = 4 ∨ k = 5 ∨ k = 6 ∨ k = 7 := by omega
  rcases this with h | h | h | h | h | h | h | h <;> subst h <;> decide
theorem val_le7 (l : List UInt8) (h : l.length ≤ 7) : 0 ≤ val l ∧ val l ≤ 562949953421311 := by
  have := val_bound l
  have := pow128_le l.length h
  omega
/-- The bytes are those of what they say just where they are good. -/
theorem good_iff (l : List UInt8) (h : l.length ≤ 7) : good l = true ↔ vl 6 (val l) = l := by
  constructor
  · intro hg; exact vl_good l 6 hg (by omega)
  · intro e
    have hb := val_bound l
    have h7 := val_le7 l h
    have := good_vl 6 (val l) hb.1 (by simp; omega)
    rwa [e] at this
/-- The first beginning of l that is good, of k bytes or more, fuel tries. -/
def rvGo (l : List UInt8) : Nat → Nat → Int × Nat
  | 0, _ => (0, 0)
  | f + 1, k => bif decide (k ≤ l.length) && good (l.take k) then (val (l.take k), k) else rvGo l f (k + 1)
def rv (l : List UInt8) : Int × Nat := rvGo l 7 1
theorem rvGo_short (l : List UInt8) : ∀ f k, l.length < k → rvGo l f k = (0, 0)
  | 0, _, _ => rfl
  | f + 1, k, h => by
    rw [rvGo, show decide (k ≤ l.length) = false from by simp; omega]
    exact rvGo_short l f (k + 1) (by omega)
theorem rvGo_yes (l : List UInt8) (f k : Nat) (h : k ≤ l.length) (hg : good (l.take k) = true) : rvGo l (f + 1) k = (val (l.take k), k) := by
  simp [rvGo, h, hg]
theorem rvGo_no (l : List UInt8) (f k : Nat) (hg : good (l.take k) = false) : rvGo l (f + 1) k = rvGo l f (k + 1) := by
  simp [rvGo, hg]
theorem goodT_mid : ∀ (a : List UInt8) (c d : UInt8) (b : List UInt8), c.toNat < 128 → goodT (a ++ c :: d :: b) = false
  | [], c, d, b, h => by simp [goodT]; omega
  | [x], c, d, b, h => by
    simp [goodT]; omega
  | x :: y :: a, c, d, b, h => by
    have := goodT_mid (y :: a) c d b h
    simp only [List.cons_append] at this ⊢
    simp [goodT, this]
theorem good_mid (a : List UInt8) (c d : UInt8) (b : List UInt8) (h : c.toNat < 128) : good (a ++ c :: d :: b) = false := by
  match a with
  | [] => simp [good]; omega
  | [x] =>
    have := goodT_mid [] c d b h
    simp only [List.nil_append] at this
    simp [good, this]
  | x :: y :: a =>
    have := goodT_mid (y :: a) c d b h
    simp only [List.cons_append] at this ⊢
    simp [good, this]
theorem goodT_last : ∀ (a : List UInt8) (c : UInt8), (∀ x ∈ a, 128 ≤ x.toNat) → goodT (a ++ [c]) = (decide (0 < c.toNat) && decide (c.toNat < 128))
  | [], c, _ => rfl
  | [x], c, h => by have := h x (by simp); simp [goodT, this]
  | x :: y :: a, c, h => by
    have ih := goodT_last (y :: a) c (fun z hz => h z (by simp at hz ⊢; right; exact hz))
    have := h x (by simp)
    simp only [List.cons_append] at ih ⊢
    simp [goodT, ih, this]
theorem good_last (a : List UInt8) (c : UInt8) (h : ∀ x ∈ a, 128 ≤ x.toNat) : good (a ++ [c]) = (decide (c.toNat < 128) && (decide (a = []) || decide (0 < c.toNat))) := by
  match a with
  | [] => simp [good]
  | [x] => have := h x (by simp); simp [good, goodT, this]; rw [Bool.and_comm]
  | x :: y :: a =>
    have ih := goodT_last (y :: a) c (fun z hz => h z (by simp at hz ⊢; right; exact hz))
    have := h x (by simp)
    simp only [List.cons_append] at ih ⊢
    simp [good, ih, this]; rw [Bool.and_comm]
theorem take_two (l : List UInt8) (k j : Nat) (h : k + 1 < j) (hj : j ≤ l.length) : l.take j = l.take k ++ l[k] :: l[k + 1] :: (l.take j).drop (k + 2) := by
  have h1 : k < (l.take j).length := by simp; omega
  have h2 : k + 1 < (l.take j).length := by simp; omega
  have e := List.take_append_drop k (l.take j)
  rw [List.drop_eq_getElem_cons h1, List.drop_eq_getElem_cons h2, List.take_take, Nat.min_eq_left (by omega)] at e
  simp only [List.getElem_take] at e
  exact e.symm
/-- Behind a byte that ends a number none is found any more. -/
theorem rvGo_stop (l : List UInt8) (k : Nat) (hk : k < l.length) (hc : l[k].toNat < 128) : ∀ f j, k + 1 < j → rvGo l f j = (0, 0)
  | 0, _, _ => rfl
  | f + 1, j, h => by
    by_cases hj : j ≤ l.length
    · rw [rvGo_no l f j (by rw [take_two l k j h hj]; exact good_mid _ _ _ _ hc)]
      exact rvGo_stop l k hk hc f (j + 1) (by omega)
    · exact rvGo_short l (f + 1) j (by omega)
theorem len_toList (s : ByteArray) : s.data.toList.length = s.size := by rw [Array.length_toList]; rfl
theorem get_toList (s : ByteArray) (k : Nat) (h : k < s.size) : s.data.toList[k]'(by rw [len_toList]; exact h) = s[k] := rfl
theorem rv_on (s : ByteArray) (k : Nat) (hk : k < s.size) (h6 : k ≤ 6) (HA : ∀ x ∈ s.data.toList.take k, 128 ≤ x.toNat) (h : 128 ≤ s[k].toNat) :
    rvGo s.data.toList (7 - k) (k + 1) = rvGo s.data.toList (7 - (k + 1)) (k + 1 + 1) ∧ ∀ x ∈ s.data.toList.take (k + 1), 128 ≤ x.toNat := by
  constructor
  · rw [show 7 - k = (7 - (k + 1)) + 1 from by omega, rvGo_no]
    rw [take_snoc s k hk, good_last _ _ HA]; simp; omega
  · intro x hx
    rw [take_snoc s k hk, List.mem_append] at hx
    rcases hx with hx | hx
    · exact HA x hx
    · simp at hx; subst hx; exact h
theorem rv_zero (s : ByteArray) (k : Nat) (hk : k < s.size) (h6 : k ≤ 6) (HA : ∀ x ∈ s.data.toList.take k, 128 ≤ x.toNat) (h : s[k].toNat = 0) (h0 : 0 < k) :
    rvGo s.data.toList (7 - k) (k + 1) = (0, 0) := by
  have hl := len_toList s
  rw [show 7 - k = (7 - (k + 1)) + 1 from by omega, rvGo_no]
  · exact rvGo_stop _ k (by omega) (by rw [get_toList s k hk]; omega) _ _ (by omega)
  · rw [take_snoc s k hk, good_last _ _ HA]
    have : (s.data.toList.take k) ≠ [] := by
      intro e; have := congrArg List.length e; rw [List.length_take, hl, List.length_nil] at this; omega
    simp [h, this]
theorem rv_found (s : ByteArray) (k : Nat) (hk : k < s.size) (h6 : k ≤ 6) (HA : ∀ x ∈ s.data.toList.take k, 128 ≤ x.toNat) (h : s[k].toNat < 128) (h0 : s[k].toNat = 0 → k = 0) :
    rvGo s.data.toList (7 - k) (k + 1) = (val (s.data.toList.take (k + 1)), k + 1) := by
  have hl := len_toList s
  rw [show 7 - k = (7 - (k + 1)) + 1 from by omega, rvGo_yes _ _ _ (by omega)]
  rw [take_snoc s k hk, good_last _ _ HA]
  by_cases hz : s[k].toNat = 0
  · have := h0 hz; subst this; simp [h]
  · simp [h]; right; omega
theorem val_step (s : ByteArray) (k : Nat) (hk : k < s.size) : val (s.data.toList.take (k + 1)) = val (s.data.toList.take k) + (s[k].toNat : Int) % 128 * 128 ^ k := by
  have hl := len_toList s
  rw [take_snoc s k hk, val_snoc]
  simp [hl, Nat.min_eq_left (Nat.le_of_lt hk)]
theorem two_pow7 (m : Nat) : (2 : Int) ^ (7 * m) = 128 ^ m := by
  rw [Int.pow_mul]; rfl
theorem mul_pow128 (c : UInt8) (k : Nat) (h : k ≤ 6) : 0 ≤ (c.toNat : Int) % 128 * 128 ^ k ∧ (c.toNat : Int) % 128 * 128 ^ k ≤ 562949953421311 := by
  have : k = 0 ∨ k = 1 ∨ k = 2 ∨ k = 3 ∨ k = 4 ∨ k = 5 ∨ k = 6 := by omega
  rcases this with h | h | h | h | h | h | h <;> subst h <;> simp <;> omega
end Go.Proofs.YtdpjlfgfacjfeaaDoor.Num
