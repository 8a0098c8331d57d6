/- Plain facts for FnNumbers: what is written is read back, whatever stands behind. -/
import Derived.Test.YtglngepjphgpoaaDoorDraw
import Derived.Test.YtglngepjphgpoaaDoorRvi
import Derived.Test.YtglngepjphgpoaaDoorUnhex
import Derived.Test.YtglngepjphgpoaaDoorRf
namespace Go.Proofs.YtglngepjphgpoaaDoor
open Go.RowKit
open Num
set_option linter.unusedVariables false
theorem val_vl : ∀ (f : Nat) (n : Int), 0 ≤ n → n < 128 ^ (f + 1) → val (vl f n) = n
  | 0, n, h0, h1 => by
    have h1' : n < 128 := by simpa using h1
    simp only [vl, val, toNat_of n (by omega) (by omega)]; omega
  | f + 1, n, h0, h1 => by
    by_cases hs : n < 128
    · rw [vl_small _ _ hs]
      simp only [val, toNat_of n (by omega) (by omega)]; omega
    · rw [vl_great f n (by omega)]
      have hp : (128 : Int) ^ (f + 1 + 1) = 128 ^ (f + 1) * 128 := Int.pow_succ ..
      simp only [val, val_vl f (n / 128) (by omega) (by omega), toNat_of (128 + n % 128) (by omega) (by omega)]
      omega
theorem goodT_parts : ∀ l, goodT l = true → ∃ a c, l = a ++ [c] ∧ (∀ x ∈ a, 128 ≤ x.toNat) ∧ c.toNat < 128 ∧ 0 < c.toNat
  | [], h => by simp [goodT] at h
  | [c], h => by simp [goodT] at h; exact ⟨[], c, rfl, by simp, h.2, h.1⟩
  | c :: d :: l, h => by
    simp [goodT] at h
    obtain ⟨a, e, hl, ha, h1, h2⟩ := goodT_parts (d :: l) h.2
    refine ⟨c :: a, e, by rw [hl]; rfl, fun x hx => ?_, h1, h2⟩
    rcases List.mem_cons.1 hx with rfl | hx
    · exact h.1
    · exact ha x hx
theorem good_parts : ∀ l, good l = true → ∃ a c, l = a ++ [c] ∧ (∀ x ∈ a, 128 ≤ x.toNat) ∧ c.toNat < 128 ∧ (c.toNat = 0 → a = [])
  | [], h => by simp [good] at h
  | [c], h => by simp [good] at h; exact ⟨[], c, rfl, by simp, h, fun _ => rfl⟩
  | c :: d :: l, h => by
    simp [good] at h
    obtain ⟨a, e, hl, ha, h1, h2⟩ := goodT_parts (d :: l) h.2
    refine ⟨c :: a, e, by rw [hl]; rfl, fun x hx => ?_, h1, fun h0 => by omega⟩
    rcases List.mem_cons.1 hx with rfl | hx
    · exact h.1
    · exact ha x hx
theorem rvGo_upto (a : List UInt8) (c : UInt8) (l : List UInt8) (ha : ∀ x ∈ a, 128 ≤ x.toNat) : ∀ (j f k : Nat), k + j = a.length + 1 → 1 ≤ k → rvGo (a ++ c :: l) (f + j) k = rvGo (a ++ c :: l) f (a.length + 1)
  | 0, f, k, h, h1 => by rw [show k = a.length + 1 from by omega]; rfl
  | j + 1, f, k, h, h1 => by
    rw [show f + (j + 1) = (f + j) + 1 from by omega, rvGo_no, rvGo_upto a c l ha j f (k + 1) (by omega) (by omega)]
    rw [List.take_append_of_le_length (by omega)]
    obtain ⟨k', rfl⟩ : ∃ k', k = k' + 1 := ⟨k - 1, by omega⟩
    rw [List.take_succ_eq_append_getElem (by omega), good_last _ _ (fun x hx => ha x (List.mem_of_mem_take hx))]
    have := ha a[k'] (List.getElem_mem ..)
    simp; omega
/-- What Var makes is read as it, whatever stands behind. -/
theorem rv_var (n : Int) (l : List UInt8) (h0 : 0 ≤ n) (h1 : n ≤ 562949953421311) : rv (vl 6 n ++ l) = (n, (vl 6 n).length) := by
  have hg := good_vl 6 n h0 (by simp; omega)
  have hv := val_vl 6 n h0 (by simp; omega)
  have hl7 : (vl 6 n).length ≤ 7 := length_vl 6 n
  obtain ⟨a, c, e, ha, hc, hz⟩ := good_parts _ hg
  rw [e] at hg hv hl7 ⊢
  have hla : a.length ≤ 6 := by simp at hl7; omega
  unfold rv
  rw [List.append_assoc, List.singleton_append, show (7 : Nat) = (6 - a.length + 1) + a.length from by omega, rvGo_upto a c l ha a.length _ 1 (by omega) (by omega)]
  have ht : (a ++ c :: l).take (a.length + 1) = a ++ [c] := by
    rw [List.take_append, List.take_of_length_le (by omega)]; simp
  rw [rvGo_yes _ _ _ (by simp) (by rw [ht]; exact hg), ht, hv]; simp
theorem rvGo_sound (l : List UInt8) : ∀ f k, k + f ≤ 8 → (rvGo l f k).2 = 0 ∨ ((rvGo l f k).2 ≤ l.length ∧ (rvGo l f k).2 ≤ 7 ∧ good (l.take (rvGo l f k).2) = true ∧ (rvGo l f k).1 = val (l.take (rvGo l f k).2))
  | 0, k, _ => Or.inl rfl
  | f + 1, k, h => by
    unfold rvGo
    cases hb : (decide (k ≤ l.length) && good (l.take k)) with
    | true =>
      simp only [Bool.and_eq_true, decide_eq_true_eq] at hb
      exact Or.inr ⟨hb.1, by simp; omega, hb.2, rfl⟩
    | false => exact rvGo_sound l f (k + 1) (by omega)
/-- What is read as a number is what Var makes of it. -/
theorem rv_sound (l : List UInt8) (h : (rv l).2 ≠ 0) : (rv l).2 ≤ l.length ∧ var (rv l).1 = ⟨(l.take (rv l).2).toArray⟩ := by
  rcases rvGo_sound l 7 1 (by omega) with h' | ⟨h1, h2, h3, h4⟩
  · exact absurd h' h
  · refine ⟨h1, ?_⟩
    have hlen : (l.take (rv l).2).length ≤ 7 := by
      have := List.length_take_le (rv l).2 l
      show (l.take (rvGo l 7 1).2).length ≤ 7
      have := List.length_take_le (rvGo l 7 1).2 l
      omega
    have hb := val_le7 _ hlen
    have e : (rv l).1 = val (l.take (rv l).2) := h4
    rw [e, var_yes _ hb.1 hb.2, (good_iff _ hlen).1 h3]
theorem be_lo : ∀ (k : Nat) (n : Int), 0 ≤ n → n < 256 ^ k → be (lo n k) = n := by
  suffices h : ∀ (k : Nat) (n a : Int), 0 ≤ n → (lo n k).foldl (fun n c => n * 256 + (c.toNat : Int)) a = a * 256 ^ k + n % 256 ^ k by
    intro k n h0 h1
    have := h k n 0 h0
    unfold be
    rw [this, Int.emod_eq_of_lt h0 h1]; omega
  intro k
  induction k with
  | zero => intro n a h0; simp [lo, Int.emod_one]
  | succ k ih =>
    intro n a h0
    have hp : (0 : Int) < 256 ^ k := Int.pow_pos (by omega)
    have hx : ((UInt8.ofNat ((n / 256 ^ k) % 256).toNat).toNat : Int) = (n / 256 ^ k) % 256 := by
      rw [toNat_of _ (by omega) (by omega)]; omega
    rw [lo, List.foldl_cons, ih n _ h0, hx, Int.pow_succ, Int.add_mul, Int.mul_assoc, Int.mul_comm 256 (256 ^ k)]
    have e : n % (256 ^ k * 256) = (n / 256 ^ k) % 256 * 256 ^ k + n % 256 ^ k := by
      rw [Int.emod_def, ← Int.ediv_ediv_of_nonneg (by omega), Int.emod_def (n / 256 ^ k) 256, Int.emod_def n (256 ^ k), Int.sub_mul, Int.mul_comm (n / 256 ^ k) (256 ^ k), Int.mul_assoc (256 ^ k) 256, Int.mul_comm (256 * (n / 256 ^ k / 256)) (256 ^ k)]
      omega
    rw [e]; omega
theorem hv_hexd (k : Nat) (h : k < 16) : hv ((hexd (k : Int)).toNat : Int) = k := hv_hit k h _ rfl
/-- Hex is undone. -/
theorem unh_hex : ∀ l, unh (hex l) = some l
  | [] => rfl
  | c :: l => by
    have hc := c.toNat_lt
    have e1 : hv ((hexd ((c.toNat : Int) / 16)).toNat : Int) = (c.toNat : Int) / 16 := by
      have := hv_hexd (c.toNat / 16) (by omega)
      rw [show ((c.toNat : Int) / 16) = ((c.toNat / 16 : Nat) : Int) from by omega]; exact this
    have e2 : hv ((hexd ((c.toNat : Int) % 16)).toNat : Int) = (c.toNat : Int) % 16 := by
      have := hv_hexd (c.toNat % 16) (by omega)
      rw [show ((c.toNat : Int) % 16) = ((c.toNat % 16 : Nat) : Int) from by omega]; exact this
    rw [hex, unh, unh_hex l, e1, e2, if_neg (by omega)]
    have : (16 * ((c.toNat : Int) / 16) + (c.toNat : Int) % 16).toNat = c.toNat := by omega
    rw [this]; simp
theorem rd_itoa (n : Int) (h0 : -9223372036854775808 ≤ n) (h1 : n ≤ 9223372036854775807) : rd (Lib.itoa n) = if -999999999 ≤ n ∧ n ≤ 999999999 then (n, true) else (0, false) := by
  rw [rd_ok _ n (atoi_itoa n h0 h1)]
  by_cases h : -999999999 ≤ n ∧ n ≤ 999999999
  · rw [if_pos ⟨h.1, h.2, rfl⟩, if_pos h]
  · rw [if_neg (fun hx => h ⟨hx.1, hx.2.1⟩), if_neg h]
end Go.Proofs.YtglngepjphgpoaaDoor
