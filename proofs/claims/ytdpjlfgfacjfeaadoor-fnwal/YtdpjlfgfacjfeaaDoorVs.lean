/- Plain facts on numbers that are read at a place of a text; of no Go text. No conditions. -/
import Derived.Test.YtdpjlfgfacjfeaaDoorRnum
namespace Go.Proofs.YtdpjlfgfacjfeaaDoor.Num
set_option linter.unusedVariables false
theorem vl_length : ∀ (f : Nat) (n : Int), (vl f n).length ≤ f + 1
  | 0, n => by simp [vl]
  | f + 1, n => by
    unfold vl
    split
    · simp
    · have := vl_length f (n / 128); simp; omega
theorem var_size (n : Int) : (var n).size ≤ 7 := by
  unfold var
  cases varOk n with
  | false => show 0 ≤ 7; omega
  | true =>
    have := vl_length 6 n
    show (vl 6 n).toArray.size ≤ 7
    rw [List.size_toArray]; exact this
theorem var_pos (n : Int) (h0 : 0 ≤ n) (h1 : n ≤ 562949953421311) : 0 < (var n).size := by
  rw [var_yes n h0 h1]
  obtain ⟨c, l, e⟩ := vl_cons 6 n
  show 0 < (vl 6 n).toArray.size
  rw [e]; simp
theorem rvGo_bound (l : List UInt8) : ∀ f k, k + f = 8 → (rvGo l f k).2 ≤ l.length ∧ 0 ≤ (rvGo l f k).1 ∧ (rvGo l f k).1 ≤ 562949953421311 ∧ ((rvGo l f k).2 = 0 → 1 ≤ k → (rvGo l f k).1 = 0) ∧ (rvGo l f k).2 ≤ 7
  | 0, _, _ => by simp [rvGo]
  | f + 1, k, h => by
    unfold rvGo
    by_cases hc : (decide (k ≤ l.length) && good (l.take k)) = true
    · rw [hc, cond_true]
      have h1 : k ≤ l.length := by simpa using (Bool.and_eq_true_iff.1 hc).1
      have h2 := val_le7 (l.take k) (by rw [List.length_take]; omega)
      exact ⟨h1, h2.1, h2.2, fun e h' => by simp at e; omega, by show k ≤ 7; omega⟩
    · rw [Bool.not_eq_true] at hc
      rw [hc, cond_false]
      obtain ⟨i1, i2, i3, i4, i5⟩ := rvGo_bound l f (k + 1) (by omega)
      exact ⟨i1, i2, i3, fun e h' => i4 e (by omega), i5⟩
theorem rv_bound (l : List UInt8) : (rv l).2 ≤ l.length ∧ 0 ≤ (rv l).1 ∧ (rv l).1 ≤ 562949953421311 ∧ ((rv l).2 = 0 → (rv l).1 = 0) ∧ (rv l).2 ≤ 7 := by
  obtain ⟨i1, i2, i3, i4, i5⟩ := rvGo_bound l 7 1 rfl
  exact ⟨i1, i2, i3, fun e => i4 e (Nat.le_refl _), i5⟩
/-- What is read from a place on: a number and its length. -/
def rvAt (s : ByteArray) (a : Nat) : Int × Nat := rv (s.data.toList.drop a)
theorem rvAt_bound (s : ByteArray) (a : Nat) : (rvAt s a).2 ≤ s.size - a ∧ 0 ≤ (rvAt s a).1 ∧ (rvAt s a).1 ≤ 562949953421311 ∧ ((rvAt s a).2 = 0 → (rvAt s a).1 = 0) ∧ (rvAt s a).2 ≤ 7 := by
  have := rv_bound (s.data.toList.drop a)
  rw [List.length_drop, len_toList] at this
  exact this
theorem val_vl : ∀ (f : Nat) (n : Int), 0 ≤ n → n < 128 ^ (f + 1) → val (vl f n) = n
  | 0, n, h0, h1 => by
    have h1' : n < 128 := by simpa using h1
    simp only [vl, val, toNat_of n (by omega) (by omega)]; omega
  | f + 1, n, h0, h1 => by
    by_cases hs : n < 128
    · rw [vl_small _ _ hs]
      simp only [val, toNat_of n (by omega) (by omega)]; omega
    · rw [vl_great f n (by omega)]
      have hp : (128 : Int) ^ (f + 1 + 1) = 128 ^ (f + 1) * 128 := Int.pow_succ ..
      simp only [val, val_vl f (n / 128) (by omega) (by omega), toNat_of (128 + n % 128) (by omega) (by omega)]
      omega
theorem goodT_parts : ∀ l, goodT l = true → ∃ a c, l = a ++ [c] ∧ (∀ x ∈ a, 128 ≤ x.toNat) ∧ c.toNat < 128 ∧ 0 < c.toNat
  | [], h => by simp [goodT] at h
  | [c], h => by simp [goodT] at h; exact ⟨[], c, rfl, by simp, h.2, h.1⟩
  | c :: d :: l, h => by
    simp [goodT] at h
    obtain ⟨a, e, hl, ha, h1, h2⟩ := goodT_parts (d :: l) h.2
    refine ⟨c :: a, e, by rw [hl]; rfl, fun x hx => ?_, h1, h2⟩
    rcases List.mem_cons.1 hx with rfl | hx
    · exact h.1
    · exact ha x hx
theorem good_parts : ∀ l, good l = true → ∃ a c, l = a ++ [c] ∧ (∀ x ∈ a, 128 ≤ x.toNat) ∧ c.toNat < 128 ∧ (c.toNat = 0 → a = [])
  | [], h => by simp [good] at h
  | [c], h => by simp [good] at h; exact ⟨[], c, rfl, by simp, h, fun _ => rfl⟩
  | c :: d :: l, h => by
    simp [good] at h
    obtain ⟨a, e, hl, ha, h1, h2⟩ := goodT_parts (d :: l) h.2
    refine ⟨c :: a, e, by rw [hl]; rfl, fun x hx => ?_, h1, fun h0 => by omega⟩
    rcases List.mem_cons.1 hx with rfl | hx
    · exact h.1
    · exact ha x hx
theorem rvGo_upto (a : List UInt8) (c : UInt8) (l : List UInt8) (ha : ∀ x ∈ a, 128 ≤ x.toNat) : ∀ (j f k : Nat), k + j = a.length + 1 → 1 ≤ k → rvGo (a ++ c :: l) (f + j) k = rvGo (a ++ c :: l) f (a.length + 1)
  | 0, f, k, h, h1 => by rw [show k = a.length + 1 from by omega]; rfl
  | j + 1, f, k, h, h1 => by
    rw [show f + (j + 1) = (f + j) + 1 from by omega, rvGo_no, rvGo_upto a c l ha j f (k + 1) (by omega) (by omega)]
    rw [List.take_append_of_le_length (by omega)]
    obtain ⟨k', rfl⟩ : ∃ k', k = k' + 1 := ⟨k - 1, by omega⟩
    rw [List.take_succ_eq_append_getElem (by omega), good_last _ _ (fun x hx => ha x (List.mem_of_mem_take hx))]
    have := ha a[k'] (List.getElem_mem ..)
    simp; omega
/-- What Var makes is read as it, whatever stands behind. -/
theorem rv_var (n : Int) (l : List UInt8) (h0 : 0 ≤ n) (h1 : n ≤ 562949953421311) : rv (vl 6 n ++ l) = (n, (vl 6 n).length) := by
  have hg := good_vl 6 n h0 (by simp; omega)
  have hv := val_vl 6 n h0 (by simp; omega)
  have hl7 : (vl 6 n).length ≤ 7 := vl_length 6 n
  obtain ⟨a, c, e, ha, hc, hz⟩ := good_parts _ hg
  rw [e] at hg hv hl7 ⊢
  have hla : a.length ≤ 6 := by simp at hl7; omega
  unfold rv
  rw [List.append_assoc, List.singleton_append, show (7 : Nat) = (6 - a.length + 1) + a.length from by omega, rvGo_upto a c l ha a.length _ 1 (by omega) (by omega)]
  have ht : (a ++ c :: l).take (a.length + 1) = a ++ [c] := by
    rw [List.take_append, List.take_of_length_le (by omega)]; simp
  rw [rvGo_yes _ _ _ (by simp) (by rw [ht]; exact hg), ht, hv]; simp
theorem var_list (n : Int) (h0 : 0 ≤ n) (h1 : n ≤ 562949953421311) : (var n).data.toList = vl 6 n := by rw [var_yes n h0 h1]
/-- So many numbers from a place on, and where they end; none where one is missing. -/
def vL (s : ByteArray) (a : Nat) : Nat → Option (List Int × Nat)
  | 0 => some ([], a)
  | n + 1 => match vL s a n with
    | none => none
    | some (xs, b) => if (rvAt s b).2 = 0 then none else some (xs ++ [(rvAt s b).1], b + (rvAt s b).2)
theorem vL_go {s : ByteArray} {a n b : Nat} {xs : List Int} (h : vL s a n = some (xs, b)) (h0 : 0 < (rvAt s b).2) : vL s a (n + 1) = some (xs ++ [(rvAt s b).1], b + (rvAt s b).2) := by
  simp only [vL, h]; rw [if_neg (by omega)]
theorem vL_no {s : ByteArray} {a n b : Nat} {xs : List Int} (h : vL s a n = some (xs, b)) (h0 : (rvAt s b).2 = 0) : vL s a (n + 1) = none := by
  simp only [vL, h]; rw [if_pos h0]
theorem vL_none {s : ByteArray} {a n : Nat} (h : vL s a n = none) : vL s a (n + 1) = none := by
  simp only [vL, h]
theorem vL_len {s : ByteArray} {a : Nat} (ha : a ≤ s.size) : ∀ {n b : Nat} {xs : List Int}, vL s a n = some (xs, b) → xs.length = n ∧ b ≤ s.size
  | 0, b, xs, h => by
    simp [vL] at h
    obtain ⟨rfl, rfl⟩ := h
    exact ⟨rfl, ha⟩
  | n + 1, b, xs, h => by
    simp only [vL] at h
    split at h
    · cases h
    · rename_i ys c hc
      obtain ⟨h1, h2⟩ := vL_len ha hc
      split at h
      · cases h
      · simp at h
        obtain ⟨rfl, rfl⟩ := h
        have := (rvAt_bound s c).1
        exact ⟨by simp [h1], by omega⟩
theorem drop_ext (s : ByteArray) (a : Nat) : (s.extract a s.size).data.toList = s.data.toList.drop a := by
  rw [ByteArray.data_extract, Array.toList_extract, List.extract]
  rw [List.take_of_length_le (by rw [List.length_drop, len_toList]; omega)]
end Go.Proofs.YtdpjlfgfacjfeaaDoor.Num
