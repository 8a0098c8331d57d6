/- Plain facts on validators: who is right, power, who is enough, whose turn it is; of no Go text. No conditions. Plain facts on numbers written seven bits to a byte, of no Go text. No conditions. Plain facts on reading numbers of seven bits to a byte, of no Go text. No conditions. Plain facts on numbers that are read at a place of a text; of no Go text. No conditions. Plain facts on headers: which are right, their texts, what is read from a text; of no Go text. No conditions. -/
import Derived.Test.YtajfmjgaaapjeaaGreatDoorG2
namespace Go.Proofs.YtajfmjgaaapjeaaGreatDoor.Num
/-- A validator: who, and how much. -/
structure V where
  i : Int
  p : Int
  deriving DecidableEq, Inhabited
def nobody : V := ⟨0, 0⟩
def goodV (v : V) : Bool := decide (1 ≤ v.i) && decide (v.i ≤ 99) && decide (1 ≤ v.p) && decide (v.p ≤ 1000)
/-- Is the one at place k right, and above the one ahead of it? -/
def stepOk (l : List V) (k : Nat) : Bool := goodV (l.getD k nobody) && (decide (k = 0) || decide ((l.getD (k - 1) nobody).i < (l.getD k nobody).i))
def vOk (l : List V) : Bool := decide (1 ≤ l.length) && decide (l.length ≤ 7) && (List.range l.length).all (stepOk l)
theorem vOk_iff (l : List V) : vOk l = true ↔ 1 ≤ l.length ∧ l.length ≤ 7 ∧ ∀ k, k < l.length → stepOk l k = true := by
  simp [vOk, and_assoc]
theorem vOk_short {l : List V} (h : l.length < 1 ∨ 7 < l.length) : vOk l = false := by
  rw [← Bool.not_eq_true, vOk_iff]; omega
theorem vOk_bad {l : List V} {k : Nat} (hk : k < l.length) (h : stepOk l k = false) : vOk l = false := by
  rw [← Bool.not_eq_true, vOk_iff]
  intro ⟨_, _, h3⟩
  have := h3 k hk
  rw [h] at this; cases this
theorem vOk_all {l : List V} (h1 : 1 ≤ l.length) (h7 : l.length ≤ 7) (h : ∀ k, k < l.length → stepOk l k = true) : vOk l = true := (vOk_iff l).2 ⟨h1, h7, h⟩
theorem getD_at {l : List V} {k : Nat} (h : k < l.length) : l.getD k nobody = l[k] := by
  rw [List.getD_eq_getElem?_getD, List.getElem?_eq_getElem h]; rfl
theorem step_zero {l : List V} (h : 0 < l.length) : stepOk l 0 = goodV l[0] := by
  unfold stepOk; rw [getD_at h]; simp
theorem step_succ {l : List V} {k : Nat} (h : k + 1 < l.length) : stepOk l (k + 1) = (goodV l[k + 1] && decide (l[k].i < l[k + 1].i)) := by
  unfold stepOk; rw [Nat.add_sub_cancel, getD_at h, getD_at (show k < l.length by omega)]; simp
theorem good_iff' (v : V) : goodV v = true ↔ 1 ≤ v.i ∧ v.i ≤ 99 ∧ 1 ≤ v.p ∧ v.p ≤ 1000 := by
  simp [goodV, and_assoc]
theorem good_of_ok {l : List V} (h : vOk l = true) {k : Nat} (hk : k < l.length) : 1 ≤ l[k].i ∧ l[k].i ≤ 99 ∧ 1 ≤ l[k].p ∧ l[k].p ≤ 1000 := by
  have := ((vOk_iff l).1 h).2.2 k hk
  unfold stepOk at this; rw [getD_at hk] at this
  exact (good_iff' _).1 (Bool.and_eq_true_iff.1 this).1
theorem rise_of_ok {l : List V} (h : vOk l = true) {k : Nat} (hk : k + 1 < l.length) : l[k].i < l[k + 1].i := by
  have := ((vOk_iff l).1 h).2.2 (k + 1) hk
  rw [step_succ hk] at this
  simpa using (Bool.and_eq_true_iff.1 this).2
/-- All power together. -/
def pw (l : List V) : Int := (l.map V.p).sum
theorem pw_snoc (l : List V) (k : Nat) (h : k < l.length) : pw (l.take (k + 1)) = pw (l.take k) + l[k].p := by
  unfold pw
  rw [List.take_succ_eq_append_getElem h, List.map_append, List.sum_append]
  simp
theorem pw_bound : ∀ l : List V, (∀ v ∈ l, 1 ≤ v.p ∧ v.p ≤ 1000) → 0 ≤ pw l ∧ pw l ≤ 1000 * l.length
  | [], _ => by simp [pw]
  | v :: l, h => by
    have ih := pw_bound l (fun x hx => h x (List.mem_cons_of_mem _ hx))
    have := h v (List.mem_cons_self ..)
    have e : pw (v :: l) = v.p + pw l := by simp [pw]
    rw [e, List.length_cons]; omega
theorem mem_ok {l : List V} (h : vOk l = true) : ∀ v ∈ l, 1 ≤ v.p ∧ v.p ≤ 1000 := by
  intro v hv
  obtain ⟨k, hk, rfl⟩ := List.getElem_of_mem hv
  have := good_of_ok h hk
  omega
theorem len_ok {l : List V} (h : vOk l = true) : 1 ≤ l.length ∧ l.length ≤ 7 := by
  have := (vOk_iff l).1 h
  omega
theorem pw_take_bound {l : List V} (h : vOk l = true) (k : Nat) : 0 ≤ pw (l.take k) ∧ pw (l.take k) ≤ 7000 := by
  have h1 := pw_bound (l.take k) (fun v hv => mem_ok h v (List.mem_of_mem_take hv))
  have h2 := len_ok h
  have h3 := List.length_take_le' k l
  omega
def powerOf (l : List V) : Int := bif vOk l then pw l else 0
/-- Is a number among these? -/
def hasI (l : List Int) (x : Int) : Bool := l.contains x
/-- Those whose number is among these. -/
def among (l : List V) (ids : List Int) : List V := l.filter fun v => hasI ids v.i
theorem among_snoc (l : List V) (ids : List Int) (k : Nat) (h : k < l.length) : among (l.take (k + 1)) ids = among (l.take k) ids ++ (if hasI ids l[k].i then [l[k]] else []) := by
  unfold among
  rw [List.take_succ_eq_append_getElem h, List.filter_append]
  congr 1
  simp only [List.filter_cons, List.filter_nil]
theorem pw_append (a b : List V) : pw (a ++ b) = pw a + pw b := by simp [pw]
theorem pw_among_snoc (l : List V) (ids : List Int) (k : Nat) (h : k < l.length) : pw (among (l.take (k + 1)) ids) = pw (among (l.take k) ids) + (if hasI ids l[k].i then l[k].p else 0) := by
  rw [among_snoc l ids k h, pw_append]
  congr 1
  split <;> simp [pw]
theorem among_bound {l : List V} (h : vOk l = true) (ids : List Int) (k : Nat) : 0 ≤ pw (among (l.take k) ids) ∧ pw (among (l.take k) ids) ≤ 7000 ∧ (among (l.take k) ids).length ≤ 7 := by
  have h0 : ∀ v ∈ among (l.take k) ids, v ∈ l := fun v hv => List.mem_of_mem_take (List.mem_filter.1 hv).1
  have h1 := pw_bound (among (l.take k) ids) (fun v hv => mem_ok h v (h0 v hv))
  have h2 := len_ok h
  have h3 := List.length_filter_le (fun v : V => hasI ids v.i) (l.take k)
  have h4 := List.length_take_le' k l
  have h5 : (among (l.take k) ids).length ≤ 7 := by unfold among; omega
  omega
def enough (l : List V) (ids : List Int) : Bool := vOk l && decide (2 * pw l < 3 * pw (among l ids))
/-- Whose turn it is. -/
def turn (l : List V) (h r : Int) : Int := bif vOk l && decide (0 ≤ h) && decide (0 ≤ r) then (l.getD ((h % l.length + r % l.length) % l.length).toNat nobody).i else 0
end Go.Proofs.YtajfmjgaaapjeaaGreatDoor.Num
namespace Go.Proofs.YtajfmjgaaapjeaaGreatDoor.Num
/-- A number's bytes, seven bits each, the lowest first; fuel many that go on. -/
def vl : Nat → Int → List UInt8
  | 0, n => [UInt8.ofNat n.toNat]
  | f + 1, n => if n < 128 then [UInt8.ofNat n.toNat] else UInt8.ofNat (128 + n % 128).toNat :: vl f (n / 128)
theorem vl_small (f : Nat) (n : Int) (h : n < 128) : vl f n = [UInt8.ofNat n.toNat] := by
  cases f with
  | zero => rfl
  | succ f => simp [vl, h]
theorem vl_great (f : Nat) (n : Int) (h : 128 ≤ n) : vl (f + 1) n = UInt8.ofNat (128 + n % 128).toNat :: vl f (n / 128) := by
  simp [vl, show ¬ n < 128 from by omega]
theorem vbound (k : Nat) (m : Int) (hk : k ≤ 6) (h : 128 ≤ m) (hb : m < 128 ^ (7 - k)) : k ≤ 5 ∧ m / 128 < 128 ^ (7 - (k + 1)) := by
  have : k = 0 ∨ k = 1 ∨ k = 2 ∨ k = 3 ∨ k = 4 ∨ k = 5 ∨ k = 6 := by omega
  rcases this with h | h | h | h | h | h | h <;> subst h <;> first | omega | (simp at hb ⊢; omega)
def varOk (n : Int) : Bool := decide (0 ≤ n) && decide (n ≤ 562949953421311)
def var (n : Int) : ByteArray := bif varOk n then ⟨(vl 6 n).toArray⟩ else ⟨#[]⟩
theorem var_no (n : Int) (h : n < 0 ∨ 562949953421311 < n) : var n = ⟨#[]⟩ := by
  have : varOk n = false := by
    unfold varOk
    rcases h with h | h
    · simp [show ¬ (0 ≤ n) from by omega]
    · simp [show ¬ (n ≤ 562949953421311) from by omega]
  simp [var, this]
theorem var_yes (n : Int) (h : 0 ≤ n) (h' : n ≤ 562949953421311) : var n = ⟨(vl 6 n).toArray⟩ := by
  simp [var, varOk, h, h']
end Go.Proofs.YtajfmjgaaapjeaaGreatDoor.Num
namespace Go.Proofs.YtajfmjgaaapjeaaGreatDoor.Num
/-- What bytes say, seven bits each, the lowest first. -/
def val : List UInt8 → Int
  | [] => 0
  | c :: l => (c.toNat : Int) % 128 + 128 * val l
theorem val_bound : ∀ l : List UInt8, 0 ≤ val l ∧ val l < 128 ^ l.length
  | [] => by simp [val]
  | c :: l => by
    have := val_bound l
    have hp : (128 : Int) ^ (c :: l).length = 128 ^ l.length * 128 := by rw [List.length_cons, Int.pow_succ]
    rw [hp]; simp only [val]; omega
theorem val_snoc (c : UInt8) : ∀ l : List UInt8, val (l ++ [c]) = val l + (c.toNat : Int) % 128 * 128 ^ l.length
  | [] => by simp [val]
  | d :: l => by
    rw [List.cons_append, val, val_snoc c l, val, List.length_cons, Int.pow_succ, Int.mul_add]
    rw [show (128 : Int) * ((c.toNat : Int) % 128 * 128 ^ l.length) = (c.toNat : Int) % 128 * (128 ^ l.length * 128) from by
      rw [Int.mul_comm 128, Int.mul_assoc]]
    omega
def goodT : List UInt8 → Bool
  | [] => false
  | [c] => decide (0 < c.toNat) && decide (c.toNat < 128)
  | c :: d :: l => decide (128 ≤ c.toNat) && goodT (d :: l)
/-- Are these bytes just those of a number? -/
def good : List UInt8 → Bool
  | [] => false
  | [c] => decide (c.toNat < 128)
  | c :: d :: l => decide (128 ≤ c.toNat) && goodT (d :: l)
theorem goodT_pos : ∀ l, goodT l = true → 0 < val l
  | [], h => by simp [goodT] at h
  | [c], h => by simp [goodT] at h; simp [val]; omega
  | c :: d :: l, h => by
    simp [goodT] at h
    have := goodT_pos (d :: l) h.2
    rw [val]; omega
theorem ofNat_toNat (c : UInt8) : UInt8.ofNat c.toNat = c := by simp
theorem vl_goodT : ∀ (l : List UInt8) (f : Nat), goodT l = true → l.length ≤ f + 1 → vl f (val l) = l
  | [], f, h, _ => by simp [goodT] at h
  | [c], f, h, _ => by
    simp [goodT] at h
    have e : val [c] = (c.toNat : Int) := by simp [val]; omega
    rw [e, vl_small f _ (by omega), Int.toNat_natCast, ofNat_toNat]
  | c :: d :: l, f, h, hl => by
    simp [goodT] at h
    have hp := goodT_pos (d :: l) h.2
    have hc := c.toNat_lt
    obtain ⟨f, rfl⟩ : ∃ g, f = g + 1 := ⟨f - 1, by simp at hl; omega⟩
    have e : val (c :: d :: l) = (c.toNat : Int) % 128 + 128 * val (d :: l) := rfl
    rw [e, vl_great f _ (by omega), show ((c.toNat : Int) % 128 + 128 * val (d :: l)) / 128 = val (d :: l) from by omega,
      vl_goodT (d :: l) f h.2 (by simp at hl ⊢; omega), show (128 + ((c.toNat : Int) % 128 + 128 * val (d :: l)) % 128).toNat = c.toNat from by omega, ofNat_toNat]
theorem vl_good : ∀ (l : List UInt8) (f : Nat), good l = true → l.length ≤ f + 1 → vl f (val l) = l
  | [], f, h, _ => by simp [good] at h
  | [c], f, h, _ => by
    simp [good] at h
    have e : val [c] = (c.toNat : Int) := by simp [val]; omega
    rw [e, vl_small f _ (by omega), Int.toNat_natCast, ofNat_toNat]
  | c :: d :: l, f, h, hl => by
    simp [good] at h
    have hp := goodT_pos (d :: l) h.2
    have hc := c.toNat_lt
    obtain ⟨f, rfl⟩ : ∃ g, f = g + 1 := ⟨f - 1, by simp at hl; omega⟩
    have e : val (c :: d :: l) = (c.toNat : Int) % 128 + 128 * val (d :: l) := rfl
    rw [e, vl_great f _ (by omega), show ((c.toNat : Int) % 128 + 128 * val (d :: l)) / 128 = val (d :: l) from by omega,
      vl_goodT (d :: l) f h.2 (by simp at hl ⊢; omega), show (128 + ((c.toNat : Int) % 128 + 128 * val (d :: l)) % 128).toNat = c.toNat from by omega, ofNat_toNat]
theorem vl_cons (f : Nat) (n : Int) : ∃ c l, vl f n = c :: l := by
  cases f with
  | zero => exact ⟨_, _, rfl⟩
  | succ f => unfold vl; split <;> exact ⟨_, _, rfl⟩
theorem toNat_of (n : Int) (_h : 0 ≤ n) (_h' : n < 256) : (UInt8.ofNat n.toNat).toNat = n.toNat := by simp; omega
theorem goodT_vl : ∀ (f : Nat) (n : Int), 0 < n → n < 128 ^ (f + 1) → goodT (vl f n) = true
  | 0, n, h, h' => by
    have h'' : n < 128 := by simpa using h'
    simp only [vl, goodT, toNat_of n (by omega) (by omega)]
    simp; omega
  | f + 1, n, h, h' => by
    by_cases hs : n < 128
    · rw [vl_small _ _ hs]
      simp only [goodT, toNat_of n (by omega) (by omega)]
      simp; omega
    · rw [vl_great f n (by omega)]
      have hp : (128 : Int) ^ (f + 1 + 1) = 128 ^ (f + 1) * 128 := Int.pow_succ ..
      have ih := goodT_vl f (n / 128) (by omega) (by omega)
      obtain ⟨c, l, e⟩ := vl_cons f (n / 128)
      rw [e] at ih ⊢
      simp only [goodT, ih, toNat_of (128 + n % 128) (by omega) (by omega)]
      simp; omega
theorem good_vl : ∀ (f : Nat) (n : Int), 0 ≤ n → n < 128 ^ (f + 1) → good (vl f n) = true
  | 0, n, h, h' => by
    have h'' : n < 128 := by simpa using h'
    simp only [vl, good, toNat_of n (by omega) (by omega)]
    simp; omega
  | f + 1, n, h, h' => by
    by_cases hs : n < 128
    · rw [vl_small _ _ hs]
      simp only [good, toNat_of n (by omega) (by omega)]
      simp; omega
    · rw [vl_great f n (by omega)]
      have hp : (128 : Int) ^ (f + 1 + 1) = 128 ^ (f + 1) * 128 := Int.pow_succ ..
      have ih := goodT_vl f (n / 128) (by omega) (by omega)
      obtain ⟨c, l, e⟩ := vl_cons f (n / 128)
      rw [e] at ih ⊢
      simp only [good, ih, toNat_of (128 + n % 128) (by omega) (by omega)]
      simp; omega
theorem pow128_le (k : Nat) (h : k ≤ 7) : (128 : Int) ^ k ≤ 562949953421312 := by
  have : k = 0 ∨ k = 1 ∨ k = 2 ∨ k = 3 ∨ k = 4 ∨ k = 5 ∨ k = 6 ∨ k = 7 := by omega
  rcases this with h | h | h | h | h | h | h | h <;> subst h <;> decide
theorem val_le7 (l : List UInt8) (h : l.length ≤ 7) : 0 ≤ val l ∧ val l ≤ 562949953421311 := by
  have := val_bound l
  have := pow128_le l.length h
  omega
/-- The bytes are those of what they say just where they are good. -/
theorem good_iff (l : List UInt8) (h : l.length ≤ 7) : good l = true ↔ vl 6 (val l) = l := by
  constructor
  · intro hg; exact vl_good l 6 hg (by omega)
  · intro e
    have hb := val_bound l
    have h7 := val_le7 l h
    have := good_vl 6 (val l) hb.1 (by simp; omega)
    rwa [e] at this
/-- The first beginning of l that is good, of k bytes or more, fuel tries. -/
def rvGo (l : List UInt8) : Nat → Nat → Int × Nat
  | 0, _ => (0, 0)
  | f + 1, k => bif decide (k ≤ l.length) && good (l.take k) then (val (l.take k), k) else rvGo l f (k + 1)
def rv (l : List UInt8) : Int × Nat := rvGo l 7 1
theorem rvGo_short (l : List UInt8) : ∀ f k, l.length < k → rvGo l f k = (0, 0)
  | 0, _, _ => rfl
  | f + 1, k, h => by
    rw [rvGo, show decide (k ≤ l.length) = false from by simp; omega]
    exact rvGo_short l f (k + 1) (by omega)
theorem rvGo_yes (l : List UInt8) (f k : Nat) (h : k ≤ l.length) (hg : good (l.take k) = true) : rvGo l (f + 1) k = (val (l.take k), k) := by
  simp [rvGo, h, hg]
theorem rvGo_no (l : List UInt8) (f k : Nat) (hg : good (l.take k) = false) : rvGo l (f + 1) k = rvGo l f (k + 1) := by
  simp [rvGo, hg]
theorem goodT_mid : ∀ (a : List UInt8) (c d : UInt8) (b : List UInt8), c.toNat < 128 → goodT (a ++ c :: d :: b) = false
  | [], c, d, b, h => by simp [goodT]; omega
  | [x], c, d, b, h => by
    simp [goodT]; omega
  | x :: y :: a, c, d, b, h => by
    have := goodT_mid (y :: a) c d b h
    simp only [List.cons_append] at this ⊢
    simp [goodT, this]
theorem good_mid (a : List UInt8) (c d : UInt8) (b : List UInt8) (h : c.toNat < 128) : good (a ++ c :: d :: b) = false := by
  match a with
  | [] => simp [good]; omega
  | [x] =>
    have := goodT_mid [] c d b h
    simp only [List.nil_append] at this
    simp [good, this]
  | x :: y :: a =>
    have := goodT_mid (y :: a) c d b h
    simp only [List.cons_append] at this ⊢
    simp [good, this]
theorem goodT_last : ∀ (a : List UInt8) (c : UInt8), (∀ x ∈ a, 128 ≤ x.toNat) → goodT (a ++ [c]) = (decide (0 < c.toNat) && decide (c.toNat < 128))
  | [], c, _ => rfl
  | [x], c, h => by have := h x (by simp); simp [goodT, this]
  | x :: y :: a, c, h => by
    have ih := goodT_last (y :: a) c (fun z hz => h z (by simp at hz ⊢; right; exact hz))
    have := h x (by simp)
    simp only [List.cons_append] at ih ⊢
    simp [goodT, ih, this]
theorem good_last (a : List UInt8) (c : UInt8) (h : ∀ x ∈ a, 128 ≤ x.toNat) : good (a ++ [c]) = (decide (c.toNat < 128) && (decide (a = []) || decide (0 < c.toNat))) := by
  match a with
  | [] => simp [good]
  | [x] => have := h x (by simp); simp [good, goodT, this]; rw [Bool.and_comm]
  | x :: y :: a =>
    have ih := goodT_last (y :: a) c (fun z hz => h z (by simp at hz ⊢; right; exact hz))
    have := h x (by simp)
    simp only [List.cons_append] at ih ⊢
    simp [good, ih, this]; rw [Bool.and_comm]
theorem take_two (l : List UInt8) (k j : Nat) (h : k + 1 < j) (hj : j ≤ l.length) : l.take j = l.take k ++ l[k] :: l[k + 1] :: (l.take j).drop (k + 2) := by
  have h1 : k < (l.take j).length := by simp; omega
  have h2 : k + 1 < (l.take j).length := by simp; omega
  have e := List.take_append_drop k (l.take j)
  rw [List.drop_eq_getElem_cons h1, List.drop_eq_getElem_cons h2, List.take_take, Nat.min_eq_left (by omega)] at e
  simp only [List.getElem_take] at e
  exact e.symm
/-- Behind a byte that ends a number none is found any more. -/
theorem rvGo_stop (l : List UInt8) (k : Nat) (hk : k < l.length) (hc : l[k].toNat < 128) : ∀ f j, k + 1 < j → rvGo l f j = (0, 0)
  | 0, _, _ => rfl
  | f + 1, j, h => by
    by_cases hj : j ≤ l.length
    · rw [rvGo_no l f j (by rw [take_two l k j h hj]; exact good_mid _ _ _ _ hc)]
      exact rvGo_stop l k hk hc f (j + 1) (by omega)
    · exact rvGo_short l (f + 1) j (by omega)
theorem len_toList (s : ByteArray) : s.data.toList.length = s.size := by rw [Array.length_toList]; rfl
theorem get_toList (s : ByteArray) (k : Nat) (h : k < s.size) : s.data.toList[k]'(by rw [len_toList]; exact h) = s[k] := rfl
theorem rv_on (s : ByteArray) (k : Nat) (hk : k < s.size) (h6 : k ≤ 6) (HA : ∀ x ∈ s.data.toList.take k, 128 ≤ x.toNat) (h : 128 ≤ s[k].toNat) :
    rvGo s.data.toList (7 - k) (k + 1) = rvGo s.data.toList (7 - (k + 1)) (k + 1 + 1) ∧ ∀ x ∈ s.data.toList.take (k + 1), 128 ≤ x.toNat := by
  constructor
  · rw [show 7 - k = (7 - (k + 1)) + 1 from by omega, rvGo_no]
    rw [take_snoc s k hk, good_last _ _ HA]; simp; omega
  · intro x hx
    rw [take_snoc s k hk, List.mem_append] at hx
    rcases hx with hx | hx
    · exact HA x hx
    · simp at hx; subst hx; exact h
theorem rv_zero (s : ByteArray) (k : Nat) (hk : k < s.size) (h6 : k ≤ 6) (HA : ∀ x ∈ s.data.toList.take k, 128 ≤ x.toNat) (h : s[k].toNat = 0) (h0 : 0 < k) :
    rvGo s.data.toList (7 - k) (k + 1) = (0, 0) := by
  have hl := len_toList s
  rw [show 7 - k = (7 - (k + 1)) + 1 from by omega, rvGo_no]
  · exact rvGo_stop _ k (by omega) (by rw [get_toList s k hk]; omega) _ _ (by omega)
  · rw [take_snoc s k hk, good_last _ _ HA]
    have : (s.data.toList.take k) ≠ [] := by
      intro e; have := congrArg List.length e; rw [List.length_take, hl, List.length_nil] at this; omega
    simp [h, this]
theorem rv_found (s : ByteArray) (k : Nat) (hk : k < s.size) (h6 : k ≤ 6) (HA : ∀ x ∈ s.data.toList.take k, 128 ≤ x.toNat) (h : s[k].toNat < 128) (h0 : s[k].toNat = 0 → k = 0) :
    rvGo s.data.toList (7 - k) (k + 1) = (val (s.data.toList.take (k + 1)), k + 1) := by
  have hl := len_toList s
  rw [show 7 - k = (7 - (k + 1)) + 1 from by omega, rvGo_yes _ _ _ (by omega)]
  rw [take_snoc s k hk, good_last _ _ HA]
  by_cases hz : s[k].toNat = 0
  · have := h0 hz; subst this; simp [h]
  · simp [h]; right; omega
theorem val_step (s : ByteArray) (k : Nat) (hk : k < s.size) : val (s.data.toList.take (k + 1)) = val (s.data.toList.take k) + (s[k].toNat : Int) % 128 * 128 ^ k := by
  have hl := len_toList s
  rw [take_snoc s k hk, val_snoc]
  simp [hl, Nat.min_eq_left (Nat.le_of_lt hk)]
theorem two_pow7 (m : Nat) : (2 : Int) ^ (7 * m) = 128 ^ m := by
  rw [Int.pow_mul]; rfl
theorem mul_pow128 (c : UInt8) (k : Nat) (h : k ≤ 6) : 0 ≤ (c.toNat : Int) % 128 * 128 ^ k ∧ (c.toNat : Int) % 128 * 128 ^ k ≤ 562949953421311 := by
  have : k = 0 ∨ k = 1 ∨ k = 2 ∨ k = 3 ∨ k = 4 ∨ k = 5 ∨ k = 6 := by omega
  rcases this with h | h | h | h | h | h | h <;> subst h <;> simp <;> omega
end Go.Proofs.YtajfmjgaaapjeaaGreatDoor.Num
namespace Go.Proofs.YtajfmjgaaapjeaaGreatDoor.Num
set_option linter.unusedVariables false
theorem vl_length : ∀ (f : Nat) (n : Int), (vl f n).length ≤ f + 1
  | 0, n => by simp [vl]
  | f + 1, n => by
    unfold vl
    split
    · simp
    · have := vl_length f (n / 128); simp; omega
theorem var_size (n : Int) : (var n).size ≤ 7 := by
  unfold var
  cases varOk n with
  | false => show 0 ≤ 7; omega
  | true =>
    have := vl_length 6 n
    show (vl 6 n).toArray.size ≤ 7
    rw [List.size_toArray]; exact this
theorem var_pos (n : Int) (h0 : 0 ≤ n) (h1 : n ≤ 562949953421311) : 0 < (var n).size := by
  rw [var_yes n h0 h1]
  obtain ⟨c, l, e⟩ := vl_cons 6 n
  show 0 < (vl 6 n).toArray.size
  rw [e]; simp
theorem rvGo_bound (l : List UInt8) : ∀ f k, k + f = 8 → (rvGo l f k).2 ≤ l.length ∧ 0 ≤ (rvGo l f k).1 ∧ (rvGo l f k).1 ≤ 562949953421311 ∧ ((rvGo l f k).2 = 0 → 1 ≤ k → (rvGo l f k).1 = 0) ∧ (rvGo l f k).2 ≤ 7
  | 0, _, _ => by simp [rvGo]
  | f + 1, k, h => by
    unfold rvGo
    by_cases hc : (decide (k ≤ l.length) && good (l.take k)) = true
    · rw [hc, cond_true]
      have h1 : k ≤ l.length := by simpa using (Bool.and_eq_true_iff.1 hc).1
      have h2 := val_le7 (l.take k) (by rw [List.length_take]; omega)
      exact ⟨h1, h2.1, h2.2, fun e h' => by simp at e; omega, by show k ≤ 7; omega⟩
    · rw [Bool.not_eq_true] at hc
      rw [hc, cond_false]
      obtain ⟨i1, i2, i3, i4, i5⟩ := rvGo_bound l f (k + 1) (by omega)
      exact ⟨i1, i2, i3, fun e h' => i4 e (by omega), i5⟩
theorem rv_bound (l : List UInt8) : (rv l).2 ≤ l.length ∧ 0 ≤ (rv l).1 ∧ (rv l).1 ≤ 562949953421311 ∧ ((rv l).2 = 0 → (rv l).1 = 0) ∧ (rv l).2 ≤ 7 := by
  obtain ⟨i1, i2, i3, i4, i5⟩ := rvGo_bound l 7 1 rfl
  exact ⟨i1, i2, i3, fun e => i4 e (Nat.le_refl _), i5⟩
/-- What is read from a place on: a number and its length. -/
def rvAt (s : ByteArray) (a : Nat) : Int × Nat := rv (s.data.toList.drop a)
theorem rvAt_bound (s : ByteArray) (a : Nat) : (rvAt s a).2 ≤ s.size - a ∧ 0 ≤ (rvAt s a).1 ∧ (rvAt s a).1 ≤ 562949953421311 ∧ ((rvAt s a).2 = 0 → (rvAt s a).1 = 0) ∧ (rvAt s a).2 ≤ 7 := by
  have := rv_bound (s.data.toList.drop a)
  rw [List.length_drop, len_toList] at this
  exact this
theorem val_vl : ∀ (f : Nat) (n : Int), 0 ≤ n → n < 128 ^ (f + 1) → val (vl f n) = n
  | 0, n, h0, h1 => by
    have h1' : n < 128 := by simpa using h1
    simp only [vl, val, toNat_of n (by omega) (by omega)]; omega
  | f + 1, n, h0, h1 => by
    by_cases hs : n < 128
    · rw [vl_small _ _ hs]
      simp only [val, toNat_of n (by omega) (by omega)]; omega
    · rw [vl_great f n (by omega)]
      have hp : (128 : Int) ^ (f + 1 + 1) = 128 ^ (f + 1) * 128 := Int.pow_succ ..
      simp only [val, val_vl f (n / 128) (by omega) (by omega), toNat_of (128 + n % 128) (by omega) (by omega)]
      omega
theorem goodT_parts : ∀ l, goodT l = true → ∃ a c, l = a ++ [c] ∧ (∀ x ∈ a, 128 ≤ x.toNat) ∧ c.toNat < 128 ∧ 0 < c.toNat
  | [], h => by simp [goodT] at h
  | [c], h => by simp [goodT] at h; exact ⟨[], c, rfl, by simp, h.2, h.1⟩
  | c :: d :: l, h => by
    simp [goodT] at h
    obtain ⟨a, e, hl, ha, h1, h2⟩ := goodT_parts (d :: l) h.2
    refine ⟨c :: a, e, by rw [hl]; rfl, fun x hx => ?_, h1, h2⟩
    rcases List.mem_cons.1 hx with rfl | hx
    · exact h.1
    · exact ha x hx
theorem good_parts : ∀ l, good l = true → ∃ a c, l = a ++ [c] ∧ (∀ x ∈ a, 128 ≤ x.toNat) ∧ c.toNat < 128 ∧ (c.toNat = 0 → a = [])
  | [], h => by simp [good] at h
  | [c], h => by simp [good] at h; exact ⟨[], c, rfl, by simp, h, fun _ => rfl⟩
  | c :: d :: l, h => by
    simp [good] at h
    obtain ⟨a, e, hl, ha, h1, h2⟩ := goodT_parts (d :: l) h.2
    refine ⟨c :: a, e, by rw [hl]; rfl, fun x hx => ?_, h1, fun h0 => by omega⟩
    rcases List.mem_cons.1 hx with rfl | hx
    · exact h.1
    · exact ha x hx
theorem rvGo_upto (a : List UInt8) (c : UInt8) (l : List UInt8) (ha : ∀ x ∈ a, 128 ≤ x.toNat) : ∀ (j f k : Nat), k + j = a.length + 1 → 1 ≤ k → rvGo (a ++ c :: l) (f + j) k = rvGo (a ++ c :: l) f (a.length + 1)
  | 0, f, k, h, h1 => by rw [show k = a.length + 1 from by omega]; rfl
  | j + 1, f, k, h, h1 => by
    rw [show f + (j + 1) = (f + j) + 1 from by omega, rvGo_no, rvGo_upto a c l ha j f (k + 1) (by omega) (by omega)]
    rw [List.take_append_of_le_length (by omega)]
    obtain ⟨k', rfl⟩ : ∃ k', k = k' + 1 := ⟨k - 1, by omega⟩
    rw [List.take_succ_eq_append_getElem (by omega), good_last _ _ (fun x hx => ha x (List.mem_of_mem_take hx))]
    have := ha a[k'] (List.getElem_mem ..)
    simp; omega
/-- What Var makes is read as it, whatever stands behind. -/
theorem rv_var (n : Int) (l : List UInt8) (h0 : 0 ≤ n) (h1 : n ≤ 562949953421311) : rv (vl 6 n ++ l) = (n, (vl 6 n).length) := by
  have hg := good_vl 6 n h0 (by simp; omega)
  have hv := val_vl 6 n h0 (by simp; omega)
  have hl7 : (vl 6 n).length ≤ 7 := vl_length 6 n
  obtain ⟨a, c, e, ha, hc, hz⟩ := good_parts _ hg
  rw [e] at hg hv hl7 ⊢
  have hla : a.length ≤ 6 := by simp at hl7; omega
  unfold rv
  rw [List.append_assoc, List.singleton_append, show (7 : Nat) = (6 - a.length + 1) + a.length from by omega, rvGo_upto a c l ha a.length _ 1 (by omega) (by omega)]
  have ht : (a ++ c :: l).take (a.length + 1) = a ++ [c] := by
    rw [List.take_append, List.take_of_length_le (by omega)]; simp
  rw [rvGo_yes _ _ _ (by simp) (by rw [ht]; exact hg), ht, hv]; simp
theorem var_list (n : Int) (h0 : 0 ≤ n) (h1 : n ≤ 562949953421311) : (var n).data.toList = vl 6 n := by rw [var_yes n h0 h1]
/-- So many numbers from a place on, and where they end; none where one is missing. -/
def vL (s : ByteArray) (a : Nat) : Nat → Option (List Int × Nat)
  | 0 => some ([], a)
  | n + 1 => match vL s a n with
    | none => none
    | some (xs, b) => if (rvAt s b).2 = 0 then none else some (xs ++ [(rvAt s b).1], b + (rvAt s b).2)
theorem vL_go {s : ByteArray} {a n b : Nat} {xs : List Int} (h : vL s a n = some (xs, b)) (h0 : 0 < (rvAt s b).2) : vL s a (n + 1) = some (xs ++ [(rvAt s b).1], b + (rvAt s b).2) := by
  simp only [vL, h]; rw [if_neg (by omega)]
theorem vL_no {s : ByteArray} {a n b : Nat} {xs : List Int} (h : vL s a n = some (xs, b)) (h0 : (rvAt s b).2 = 0) : vL s a (n + 1) = none := by
  simp only [vL, h]; rw [if_pos h0]
theorem vL_none {s : ByteArray} {a n : Nat} (h : vL s a n = none) : vL s a (n + 1) = none := by
  simp only [vL, h]
theorem vL_len {s : ByteArray} {a : Nat} (ha : a ≤ s.size) : ∀ {n b : Nat} {xs : List Int}, vL s a n = some (xs, b) → xs.length = n ∧ b ≤ s.size
  | 0, b, xs, h => by
    simp [vL] at h
    obtain ⟨rfl, rfl⟩ := h
    exact ⟨rfl, ha⟩
  | n + 1, b, xs, h => by
    simp only [vL] at h
    split at h
    · cases h
    · rename_i ys c hc
      obtain ⟨h1, h2⟩ := vL_len ha hc
      split at h
      · cases h
      · simp at h
        obtain ⟨rfl, rfl⟩ := h
        have := (rvAt_bound s c).1
        exact ⟨by simp [h1], by omega⟩
theorem drop_ext (s : ByteArray) (a : Nat) : (s.extract a s.size).data.toList = s.data.toList.drop a := by
  rw [ByteArray.data_extract, Array.toList_extract, List.extract]
  rw [List.take_of_length_le (by rw [List.length_drop, len_toList]; omega)]
end Go.Proofs.YtajfmjgaaapjeaaGreatDoor.Num
namespace Go.Proofs.YtajfmjgaaapjeaaGreatDoor.Num
set_option linter.unusedVariables false
def inIs (x lo hi : Int) : Bool := decide (lo ≤ x) && decide (x ≤ hi)
/-- A header: height, time, last, validators, the next ones, data. -/
structure H where
  h : Int
  t : Int
  a : ByteArray
  v : ByteArray
  n : ByteArray
  d : ByteArray
def zH : H := ⟨0, 0, ⟨#[]⟩, ⟨#[]⟩, ⟨#[]⟩, ⟨#[]⟩⟩
def lastB (x : Int) : Int := if x = 1 then 0 else 8
def hOk (x : H) : Bool := inIs x.h 1 1000000 && inIs x.t 0 1000000 && decide ((x.a.size : Int) = lastB x.h) && decide (x.d.size ≤ 20) && decide (x.v.size = 8) && decide (x.n.size = 8)
theorem hOk_iff (x : H) : hOk x = true ↔ 1 ≤ x.h ∧ x.h ≤ 1000000 ∧ 0 ≤ x.t ∧ x.t ≤ 1000000 ∧ (x.a.size : Int) = lastB x.h ∧ x.d.size ≤ 20 ∧ x.v.size = 8 ∧ x.n.size = 8 := by
  simp [hOk, inIs, and_assoc]
theorem hOk_no {x : H} (h : ¬ (1 ≤ x.h ∧ x.h ≤ 1000000 ∧ 0 ≤ x.t ∧ x.t ≤ 1000000 ∧ (x.a.size : Int) = lastB x.h ∧ x.d.size ≤ 20 ∧ x.v.size = 8 ∧ x.n.size = 8)) : hOk x = false := by
  rw [← Bool.not_eq_true, hOk_iff]; exact h
theorem hOk_a {x : H} (h : hOk x = true) : x.a.size ≤ 8 := by
  have := ((hOk_iff x).1 h).2.2.2.2.1
  unfold lastB at this
  split at this <;> omega
/-- A text with its size ahead of it. -/
def pc (s : ByteArray) : ByteArray := var (s.size : Int) ++ s
def shH (x : H) : ByteArray := var x.h ++ var x.t ++ pc x.a ++ pc x.v ++ pc x.n ++ pc x.d
def showH (x : H) : ByteArray := bif hOk x then shH x else ⟨#[]⟩
theorem showH_no {x : H} (h : hOk x = false) : showH x = ⟨#[]⟩ := by unfold showH; rw [h]; rfl
theorem showH_yes {x : H} (h : hOk x = true) : showH x = shH x := by unfold showH; rw [h]; rfl
theorem pc_size (s : ByteArray) : (pc s).size ≤ 7 + s.size := by
  have := var_size (s.size : Int)
  unfold pc; rw [ByteArray.size_append]; omega
theorem list_append (a b : ByteArray) : (a ++ b).data.toList = a.data.toList ++ b.data.toList := by
  rw [ByteArray.data_append, Array.toList_append]
theorem list_inj {a b : ByteArray} (h : a.data.toList = b.data.toList) : a = b := ByteArray.ext (Array.ext' h)
def pl (s : ByteArray) : List UInt8 := vl 6 (s.size : Int) ++ s.data.toList
theorem pc_list (s : ByteArray) (h : s.size ≤ 562949953421311) : (pc s).data.toList = pl s := by
  unfold pc pl; rw [list_append, var_list _ (by omega) (by omega)]
def shL (x : H) : List UInt8 := vl 6 x.h ++ (vl 6 x.t ++ (pl x.a ++ (pl x.v ++ (pl x.n ++ pl x.d))))
theorem shH_list {x : H} (h : hOk x = true) : (shH x).data.toList = shL x := by
  have h1 := (hOk_iff x).1 h
  have h2 := hOk_a h
  unfold shH shL
  simp only [list_append]
  rw [var_list _ (by omega) (by omega), var_list _ (by omega) (by omega), pc_list _ (by omega), pc_list _ (by omega), pc_list _ (by omega), pc_list _ (by omega)]
  simp only [List.append_assoc]
theorem shH_size (x : H) : (shH x).size ≤ 42 + x.a.size + x.v.size + x.n.size + x.d.size := by
  have := var_size x.h
  have := var_size x.t
  have := pc_size x.a
  have := pc_size x.v
  have := pc_size x.n
  have := pc_size x.d
  unfold shH
  simp only [ByteArray.size_append]; omega
theorem showH_size (x : H) : (showH x).size ≤ 86 := by
  cases h : hOk x with
  | false => rw [showH_no h]; show 0 ≤ 86; omega
  | true =>
    have h1 := (hOk_iff x).1 h
    have h2 := hOk_a h
    have := shH_size x
    rw [showH_yes h]; omega
/-- What is taken off a text: a number, and what is left; a text with its size, and what is left. -/
def nI (s : ByteArray) : Int := (rv s.data.toList).1
def nR (s : ByteArray) : ByteArray := s.extract (rv s.data.toList).2 s.size
def zM (s : ByteArray) : Nat := min (nI s).toNat (nR s).size
def zP (s : ByteArray) : ByteArray := (nR s).extract 0 (zM s)
def zR (s : ByteArray) : ByteArray := (nR s).extract (zM s) (nR s).size
theorem nR_size (s : ByteArray) : (nR s).size ≤ s.size := by unfold nR; rw [ByteArray.size_extract]; omega
theorem zR_size (s : ByteArray) : (zR s).size ≤ s.size := by have := nR_size s; unfold zR; rw [ByteArray.size_extract]; omega
theorem zP_size (s : ByteArray) : (zP s).size ≤ s.size := by have := nR_size s; unfold zP; rw [ByteArray.size_extract]; omega
theorem take_ext (s : ByteArray) (a b : Nat) : (s.extract a b).data.toList = (s.data.toList.drop a).take (b - a) := by
  rw [ByteArray.data_extract, Array.toList_extract, List.extract]
theorem n_of {s : ByteArray} {n : Int} {l : List UInt8} (h : s.data.toList = vl 6 n ++ l) (h0 : 0 ≤ n) (h1 : n ≤ 562949953421311) : nI s = n ∧ (nR s).data.toList = l := by
  unfold nI nR
  rw [drop_ext, h, rv_var n l h0 h1]
  exact ⟨rfl, List.drop_left⟩
theorem z_of {s p : ByteArray} {l : List UInt8} (h : s.data.toList = pl p ++ l) (h1 : p.size ≤ 562949953421311) : zP s = p ∧ (zR s).data.toList = l := by
  unfold pl at h
  rw [List.append_assoc] at h
  obtain ⟨e1, e2⟩ := n_of h (by omega) (by omega)
  have hs : (nR s).size = p.size + l.length := by rw [← len_toList, e2, List.length_append, len_toList]
  have hm : zM s = p.size := by unfold zM; rw [e1, hs]; omega
  constructor
  · refine list_inj ?_
    unfold zP
    rw [take_ext, e2, hm, List.drop_zero, Nat.sub_zero, ← len_toList p, List.take_left]
  · unfold zR
    rw [drop_ext, e2, hm, ← len_toList p, List.drop_left]
def irH (s : ByteArray) : H := ⟨nI s, nI (nR s), zP (nR (nR s)), zP (zR (nR (nR s))), zP (zR (zR (nR (nR s)))), zP (zR (zR (zR (nR (nR s)))))⟩
theorem ir_back {x : H} {s : ByteArray} (h : hOk x = true) (hs : showH x = s) : irH s = x := by
  have h1 := (hOk_iff x).1 h
  have h2 := hOk_a h
  have hl : s.data.toList = shL x := by rw [← hs, showH_yes h, shH_list h]
  unfold shL at hl
  obtain ⟨a1, l1⟩ := n_of hl (by omega) (by omega)
  obtain ⟨a2, l2⟩ := n_of l1 (by omega) (by omega)
  obtain ⟨a3, l3⟩ := z_of l2 (by omega)
  obtain ⟨a4, l4⟩ := z_of l3 (by omega)
  obtain ⟨a5, l5⟩ := z_of l4 (by omega)
  rw [← List.append_nil (pl x.d)] at l5
  obtain ⟨a6, l6⟩ := z_of l5 (by omega)
  unfold irH
  rw [a1, a2, a3, a4, a5, a6]
/-- What is read from a text. -/
def rdH (s : ByteArray) : H × Bool := bif hOk (irH s) && decide (showH (irH s) = s) then (irH s, true) else (zH, false)
theorem rd_bad {s : ByteArray} (h : hOk (irH s) = false) : rdH s = (zH, false) := by unfold rdH; rw [h]; rfl
theorem rd_other {s : ByteArray} (h : ¬ showH (irH s) = s) : rdH s = (zH, false) := by
  unfold rdH; rw [decide_eq_false h, Bool.and_false]; rfl
theorem rd_good {s : ByteArray} (h : hOk (irH s) = true) (h1 : showH (irH s) = s) : rdH s = (irH s, true) := by
  unfold rdH; rw [h, decide_eq_true h1]; rfl
theorem rd_yes {x : H} {s : ByteArray} (h : hOk x = true) (hs : showH x = s) : rdH s = (x, true) := by
  have e := ir_back h hs
  rw [rd_good (by rw [e]; exact h) (by rw [e]; exact hs), e]
theorem rd_no {s : ByteArray} (h : ∀ x, hOk x = true → showH x = s → False) : rdH s = (zH, false) := by
  by_cases h1 : hOk (irH s) = true
  · exact rd_other fun h2 => h _ h1 h2
  · exact rd_bad (by simpa using h1)
/-- A text with its size, taken at a place. -/
def tk (s : ByteArray) (a : Int) : ByteArray × Int :=
  if a < 0 ∨ (rvAt s a.toNat).2 = 0 ∨ (s.size : Int) - (a + (rvAt s a.toNat).2) < (rvAt s a.toNat).1 then (⟨#[]⟩, -1)
  else (s.extract (a.toNat + (rvAt s a.toNat).2) (a.toNat + (rvAt s a.toNat).2 + (rvAt s a.toNat).1.toNat), a + (rvAt s a.toNat).2 + (rvAt s a.toNat).1)
theorem tk_neg (s : ByteArray) (a : Int) (h : a < 0) : tk s a = (⟨#[]⟩, -1) := by unfold tk; rw [if_pos (.inl h)]
theorem tk_none (s : ByteArray) (a : Nat) (h : (rvAt s a).2 = 0) : tk s a = (⟨#[]⟩, -1) := by unfold tk; rw [if_pos (.inr (.inl h))]
theorem tk_less (s : ByteArray) (a : Nat) (h : (s.size : Int) - ((a : Int) + (rvAt s a).2) < (rvAt s a).1) : tk s a = (⟨#[]⟩, -1) := by unfold tk; rw [if_pos (.inr (.inr h))]
theorem tk_some (s : ByteArray) (a : Nat) (h : 0 < (rvAt s a).2) (h1 : (rvAt s a).1 ≤ (s.size : Int) - ((a : Int) + (rvAt s a).2)) :
    tk s a = (s.extract (a + (rvAt s a).2) (a + (rvAt s a).2 + (rvAt s a).1.toNat), (a : Int) + (rvAt s a).2 + (rvAt s a).1) := by
  unfold tk
  rw [if_neg (by simp only [Int.toNat_natCast]; omega)]
  simp only [Int.toNat_natCast]
theorem tk_bound (s : ByteArray) (a : Int) : ((tk s a).2 = -1 ∨ 0 ≤ (tk s a).2 ∧ (tk s a).2 ≤ (s.size : Int)) ∧ (tk s a).1.size ≤ s.size := by
  unfold tk
  split
  · exact ⟨.inl rfl, by show 0 ≤ s.size; omega⟩
  · rename_i h
    have := rvAt_bound s a.toNat
    refine ⟨.inr ⟨by show 0 ≤ a + _ + _; omega, by show a + _ + _ ≤ (s.size : Int); omega⟩, ?_⟩
    rw [ByteArray.size_extract]; omega
theorem rvAt_of {s : ByteArray} {a : Nat} {n : Int} {l : List UInt8} (h : s.data.toList.drop a = vl 6 n ++ l) (h0 : 0 ≤ n) (h1 : n ≤ 562949953421311) : rvAt s a = (n, (vl 6 n).length) ∧ s.data.toList.drop (a + (vl 6 n).length) = l ∧ 0 < (vl 6 n).length := by
  unfold rvAt
  rw [h, rv_var n l h0 h1]
  obtain ⟨c, l', e⟩ := vl_cons 6 n
  exact ⟨rfl, by rw [← List.drop_drop, h, List.drop_left], by rw [e]; simp⟩
theorem tk_of {s p : ByteArray} {a : Nat} {l : List UInt8} (h : s.data.toList.drop a = pl p ++ l) (h1 : p.size ≤ 562949953421311) : tk s (a : Int) = (p, ((a + (pl p).length : Nat) : Int)) ∧ s.data.toList.drop (a + (pl p).length) = l := by
  unfold pl at h
  rw [List.append_assoc] at h
  obtain ⟨e1, e2, e3⟩ := rvAt_of h (by omega) (by omega)
  have hl : (pl p).length = (vl 6 (p.size : Int)).length + p.size := by unfold pl; rw [List.length_append, len_toList]
  have hs := congrArg List.length e2
  rw [List.length_drop, List.length_append, len_toList, len_toList] at hs
  have h0 : a + (vl 6 (p.size : Int)).length + p.size ≤ s.size ∨ p.size = 0 ∧ s.size < a + (vl 6 (p.size : Int)).length := by omega
  have h2 := (rvAt_bound s a).1
  rw [e1] at h2
  simp only at h2
  have h3 : a + (vl 6 (p.size : Int)).length + p.size ≤ s.size := by omega
  have e4 := congrArg Prod.snd e1
  have e5 := congrArg Prod.fst e1
  simp only at e4 e5
  constructor
  · rw [tk_some s a (by omega) (by omega), e4, e5]
    simp only [Int.toNat_natCast]
    refine Prod.ext ?_ ?_
    · refine list_inj ?_
      rw [take_ext, e2, Nat.add_sub_cancel_left, ← len_toList p, List.take_left]
    · simp only; rw [hl]; omega
  · rw [hl, ← Nat.add_assoc, ← List.drop_drop, e2, ← len_toList p, List.drop_left]
theorem vL_two {s : ByteArray} {b : Nat} {xs : List Int} (h : vL s 0 2 = some (xs, b)) : xs = [(rvAt s 0).1, (rvAt s (rvAt s 0).2).1] ∧ b = (rvAt s 0).2 + (rvAt s (rvAt s 0).2).2 ∧ 0 < (rvAt s 0).2 := by
  by_cases h0 : (rvAt s 0).2 = 0
  · have h1 : vL s 0 1 = none := vL_no (s := s) (a := 0) (n := 0) (b := 0) (xs := []) rfl h0
    rw [vL_none h1] at h; cases h
  · have h1 : vL s 0 1 = some ([] ++ [(rvAt s 0).1], 0 + (rvAt s 0).2) := vL_go (s := s) (a := 0) (n := 0) (b := 0) (xs := []) rfl (by omega)
    rw [Nat.zero_add] at h1
    by_cases h2 : (rvAt s (rvAt s 0).2).2 = 0
    · rw [vL_no h1 h2] at h; cases h
    · rw [vL_go h1 (by omega)] at h
      simp at h
      exact ⟨h.1.symm, h.2.symm, by omega⟩
theorem vL_shown {x : H} {s : ByteArray} (h : hOk x = true) (hs : showH x = s) : vL s 0 2 = some ([x.h, x.t], (vl 6 x.h).length + (vl 6 x.t).length) ∧ s.data.toList.drop ((vl 6 x.h).length + (vl 6 x.t).length) = pl x.a ++ (pl x.v ++ (pl x.n ++ pl x.d)) := by
  have h1 := (hOk_iff x).1 h
  have hl : s.data.toList.drop 0 = shL x := by rw [List.drop_zero, ← hs, showH_yes h, shH_list h]
  unfold shL at hl
  obtain ⟨a1, l1, p1⟩ := rvAt_of hl (by omega) (by omega)
  obtain ⟨a2, l2, p2⟩ := rvAt_of l1 (by omega) (by omega)
  rw [Nat.zero_add] at a2 l2
  have e1 : vL s 0 1 = some ([] ++ [(rvAt s 0).1], 0 + (rvAt s 0).2) := vL_go (s := s) (a := 0) (n := 0) (b := 0) (xs := []) rfl (by rw [a1]; exact p1)
  rw [a1, Nat.zero_add] at e1
  have e2 := vL_go e1 (by show 0 < (rvAt s (vl 6 x.h).length).2; rw [a2]; exact p2)
  simp only [a2] at e2
  exact ⟨e2, l2⟩
theorem sp_none {s : ByteArray} (h : vL s 0 2 = none) : rdH s = (zH, false) := rd_no fun x hx hs => by
  rw [(vL_shown hx hs).1] at h; cases h
/-- What is read by places. -/
def srH (s : ByteArray) (xs : List Int) (b : Int) : H := ⟨xs.getD 0 0, xs.getD 1 0, (tk s b).1, (tk s (tk s b).2).1, (tk s (tk s (tk s b).2).2).1, (tk s (tk s (tk s (tk s b).2).2).2).1⟩
def srE (s : ByteArray) (b : Int) : Int := (tk s (tk s (tk s (tk s b).2).2).2).2
theorem sr_back {x : H} {s : ByteArray} {xs : List Int} {b : Nat} (h : hOk x = true) (hs : showH x = s) (hv : vL s 0 2 = some (xs, b)) : srH s xs (b : Int) = x ∧ srE s (b : Int) = (s.size : Int) := by
  have h1 := (hOk_iff x).1 h
  have h2 := hOk_a h
  obtain ⟨e1, e2⟩ := vL_shown h hs
  rw [e1] at hv
  simp only [Option.some.injEq, Prod.mk.injEq] at hv
  obtain ⟨rfl, rfl⟩ := hv
  obtain ⟨t1, l1⟩ := tk_of e2 (by omega)
  obtain ⟨t2, l2⟩ := tk_of l1 (by omega)
  obtain ⟨t3, l3⟩ := tk_of l2 (by omega)
  rw [← List.append_nil (pl x.d)] at l3
  obtain ⟨t4, l4⟩ := tk_of l3 (by omega)
  have hb := (tk_bound s ((((vl 6 x.h).length + (vl 6 x.t).length + (pl x.a).length + (pl x.v).length + (pl x.n).length : Nat)) : Int)).1
  have hz := congrArg List.length l4
  rw [List.length_drop, len_toList] at hz
  simp only [List.length_nil] at hz
  unfold srH srE
  simp only [t1, t2, t3, t4]
  rw [t4] at hb
  simp only at hb
  exact ⟨rfl, by omega⟩
theorem sp_end {s : ByteArray} {xs : List Int} {b : Nat} (hv : vL s 0 2 = some (xs, b)) (h : ¬ srE s (b : Int) = (s.size : Int)) : rdH s = (zH, false) :=
  rd_no fun x hx hs => h (sr_back hx hs hv).2
theorem sp_other {s : ByteArray} {xs : List Int} {b : Nat} (hv : vL s 0 2 = some (xs, b)) (h : ¬ showH (srH s xs (b : Int)) = s) : rdH s = (zH, false) :=
  rd_no fun x hx hs => h (by rw [(sr_back hx hs hv).1]; exact hs)
theorem sp_good {s : ByteArray} {xs : List Int} {b : Nat} (hv : vL s 0 2 = some (xs, b)) (h : showH (srH s xs (b : Int)) = s) : rdH s = (srH s xs (b : Int), true) := by
  refine rd_yes ?_ h
  by_cases h1 : hOk (srH s xs (b : Int)) = true
  · exact h1
  · exfalso
    rw [showH_no (by simpa using h1)] at h
    have h0 := (vL_two hv).2.2
    have h2 := (rvAt_bound s 0).1
    rw [← h] at h0 h2
    have : (⟨#[]⟩ : ByteArray).size = 0 := rfl
    omega
end Go.Proofs.YtajfmjgaaapjeaaGreatDoor.Num
