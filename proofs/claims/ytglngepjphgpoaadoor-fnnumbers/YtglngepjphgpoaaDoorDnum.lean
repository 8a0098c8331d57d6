/- Plain facts on decimal numerals, of no Go text: a numeral is read back as its number; what spec.ReadDec gathers of the digits of a text. No conditions. -/
import Derived.Lib.ItoaNum
import Derived.Lib.AtoiAllCases
namespace Go.Proofs.YtglngepjphgpoaaDoor.Num
open Go.Lib
/-- The digits of a number above 0; none of 0. -/
def ddz (m : Nat) : List UInt8 := if m = 0 then [] else decDigits m
theorem ddz_step (m : Nat) (h : 0 < m) : ddz m = ddz (m / 10) ++ [UInt8.ofNat (48 + m % 10)] := by
  unfold ddz
  rw [if_neg (by omega), decDigits]
  by_cases h10 : m < 10
  · rw [dif_pos h10, if_pos (by omega), List.nil_append, Nat.mod_eq_of_lt h10]
  · rw [dif_neg h10, if_neg (by omega)]
theorem ddz_pos (m : Nat) (h : 0 < m) : ddz m = decDigits m := by unfold ddz; rw [if_neg (by omega)]
def isDig (c : UInt8) : Prop := 48 ≤ c.toNat ∧ c.toNat ≤ 57
theorem dig_of (d : Nat) (h : d < 10) : (UInt8.ofNat (48 + d)).toNat = 48 + d := by simp; omega
theorem decDigits_dig (u : Nat) : ∀ c ∈ decDigits u, isDig c := by
  induction u using decDigits.induct with
  | case1 u h =>
    intro c hc
    rw [decDigits, dif_pos h] at hc
    rw [List.mem_singleton] at hc; subst hc
    unfold isDig; rw [dig_of u h]; omega
  | case2 u h ih =>
    intro c hc
    rw [decDigits, dif_neg h] at hc
    rcases List.mem_append.1 hc with hc | hc
    · exact ih c hc
    · rw [List.mem_singleton] at hc; subst hc
      unfold isDig; rw [dig_of _ (by omega)]; omega
/-- What digits spell, behind acc. -/
def dv (acc : Nat) (l : List UInt8) : Nat := l.foldl (fun a c => a * 10 + (c.toNat - 48)) acc
theorem dv_snoc (acc : Nat) (l : List UInt8) (c : UInt8) : dv acc (l ++ [c]) = dv acc l * 10 + (c.toNat - 48) := by simp [dv]
theorem dv_decDigits (u : Nat) : dv 0 (decDigits u) = u := by
  induction u using decDigits.induct with
  | case1 u h =>
    rw [decDigits, dif_pos h]
    simp only [dv, List.foldl_cons, List.foldl_nil]
    rw [dig_of u h]; omega
  | case2 u h ih =>
    rw [decDigits, dif_neg h, dv_snoc, ih, dig_of _ (by omega)]; omega
theorem dv_ge (l : List UInt8) : ∀ acc, acc ≤ dv acc l := by
  induction l with
  | nil => intro acc; exact Nat.le_refl _
  | cons c l ih =>
    intro acc
    have := ih (acc * 10 + (c.toNat - 48))
    show acc ≤ dv (acc * 10 + (c.toNat - 48)) l
    omega
theorem parse_dv (l : List UInt8) : ∀ acc, (∀ c ∈ l, isDig c) → dv acc l < 10000000000000000000 → parseUint10 acc l = .ok (dv acc l) := by
  induction l with
  | nil => intro acc _ _; rfl
  | cons c l ih =>
    intro acc hd hb
    have hc := hd c (by simp)
    unfold isDig at hc
    have hb' : dv (acc * 10 + (c.toNat - 48)) l < 10000000000000000000 := hb
    have hge := dv_ge l (acc * 10 + (c.toNat - 48))
    rw [parseUint10, if_pos hc, if_neg (by omega), if_neg (by omega), ih _ (fun x hx => hd x (by simp [hx])) hb']
    rfl
theorem decDigits_ne (u : Nat) : decDigits u ≠ [] := by
  rw [decDigits]; split <;> simp
theorem parseMag_dec (u : Nat) (h : u < 10000000000000000000) : parseMag (decDigits u) = .ok u := by
  unfold parseMag
  rw [if_neg (decDigits_ne u), parse_dv _ 0 (decDigits_dig u) (by rw [dv_decDigits]; exact h), dv_decDigits]
theorem decDigits_cons (u : Nat) : ∃ c l, decDigits u = c :: l ∧ isDig c := by
  cases h : decDigits u with
  | nil => exact absurd h (decDigits_ne u)
  | cons c l => exact ⟨c, l, rfl, decDigits_dig u c (by rw [h]; simp)⟩
/-- A numeral is read back as its number. -/
theorem atoi_itoa (n : Int) (h0 : -9223372036854775808 ≤ n) (h1 : n ≤ 9223372036854775807) : atoiAll (itoa n) = .ok n := by
  unfold itoa
  by_cases hn : n < 0
  · rw [if_pos hn, atoiAll_minus, parseMag_dec _ (by omega)]
    unfold signed
    simp only []
    rw [if_neg (by omega)]
    congr 1; omega
  · rw [if_neg hn]
    obtain ⟨c, l, e, hc⟩ := decDigits_cons n.toNat
    unfold isDig at hc
    rw [e, atoiAll_plain c l (by omega) (by omega), ← e, parseMag_dec _ (by omega)]
    unfold signless
    simp only []
    rw [if_neg (by omega)]
    congr 1; omega
/-- What spec.ReadDec gathers: the number of the digits met, and how many. -/
def sp (l : List UInt8) : Nat × Nat := l.foldl (fun a c => if 48 ≤ c.toNat ∧ c.toNat ≤ 57 then (a.1 * 10 + (c.toNat - 48), a.2 + 1) else a) (0, 0)
theorem sp_snoc (l : List UInt8) (c : UInt8) : sp (l ++ [c]) = if 48 ≤ c.toNat ∧ c.toNat ≤ 57 then ((sp l).1 * 10 + (c.toNat - 48), (sp l).2 + 1) else sp l := by
  simp [sp]
theorem sp_digs (l : List UInt8) (h : ∀ c ∈ l, isDig c) : ∀ a : Nat × Nat, l.foldl (fun a c => if 48 ≤ c.toNat ∧ c.toNat ≤ 57 then (a.1 * 10 + (c.toNat - 48), a.2 + 1) else a) a = (dv a.1 l, a.2 + l.length) := by
  induction l with
  | nil => intro a; rfl
  | cons c l ih =>
    intro a
    have hc := h c (by simp)
    unfold isDig at hc
    rw [List.foldl_cons, if_pos hc, ih (fun x hx => h x (by simp [hx]))]
    simp [dv]; omega
theorem sp_bound (l : List UInt8) : (sp l).1 < 10 ^ (sp l).2 ∧ (sp l).2 ≤ l.length := by
  suffices h : ∀ (l : List UInt8) (a : Nat × Nat), a.1 < 10 ^ a.2 →
      (l.foldl (fun a c => if 48 ≤ c.toNat ∧ c.toNat ≤ 57 then (a.1 * 10 + (c.toNat - 48), a.2 + 1) else a) a).1 < 10 ^ (l.foldl (fun a c => if 48 ≤ c.toNat ∧ c.toNat ≤ 57 then (a.1 * 10 + (c.toNat - 48), a.2 + 1) else a) a).2 ∧
      (l.foldl (fun a c => if 48 ≤ c.toNat ∧ c.toNat ≤ 57 then (a.1 * 10 + (c.toNat - 48), a.2 + 1) else a) a).2 ≤ a.2 + l.length by
    have := h l (0, 0) (by decide)
    simpa [sp] using this
  intro l
  induction l with
  | nil => intro a h; exact ⟨h, Nat.le_refl _⟩
  | cons c l ih =>
    intro a h
    rw [List.foldl_cons]
    by_cases hc : 48 ≤ c.toNat ∧ c.toNat ≤ 57
    · rw [if_pos hc]
      have := ih (a.1 * 10 + (c.toNat - 48), a.2 + 1) (by rw [Nat.pow_succ]; simp only []; omega)
      simp only [List.length_cons] at this ⊢
      exact ⟨this.1, by omega⟩
    · rw [if_neg hc]
      have := ih a h
      simp only [List.length_cons]
      exact ⟨this.1, by omega⟩
/-- What spec.ReadDec takes for the number. -/
def spN (l : List UInt8) : Int := if l.head? = some 45 then -((sp l).1 : Int) else ((sp l).1 : Int)
theorem sp_itoa (n : Int) : sp (itoa n) = (n.natAbs, (decDigits n.natAbs).length) := by
  unfold itoa
  by_cases hn : n < 0
  · rw [if_pos hn]
    unfold sp
    rw [List.foldl_cons, if_neg (by decide), sp_digs _ (decDigits_dig _), dv_decDigits]; simp
  · rw [if_neg hn]
    unfold sp
    rw [sp_digs _ (decDigits_dig _), dv_decDigits, show n.toNat = n.natAbs from by omega]; simp
theorem spN_itoa (n : Int) : spN (itoa n) = n := by
  unfold spN
  rw [sp_itoa]
  unfold itoa
  by_cases hn : n < 0
  · rw [if_pos hn]; simp; omega
  · rw [if_neg hn]
    obtain ⟨c, l, e, hc⟩ := decDigits_cons n.toNat
    unfold isDig at hc
    rw [e, List.head?_cons, if_neg]
    · simp; omega
    · intro h
      have : c = 45 := by simpa using h
      subst this
      exact absurd hc.1 (by decide)
theorem decDigits_len : ∀ (k u : Nat), u < 10 ^ (k + 1) → (decDigits u).length ≤ k + 1
  | 0, u, h => by
    rw [decDigits, dif_pos (by simpa using h)]; simp
  | k + 1, u, h => by
    rw [decDigits]
    split
    · simp
    · have := decDigits_len k (u / 10) (by rw [Nat.pow_succ] at h; omega)
      simp; omega
/-- What a text is read as: the number of which Dec makes it, where it has at most nine digits. -/
def rd (l : List UInt8) : Int × Bool :=
  match atoiAll l with
  | .ok v => if -999999999 ≤ v ∧ v ≤ 999999999 ∧ itoa v = l then (v, true) else (0, false)
  | _ => (0, false)
def spOk (l : List UInt8) : Prop := (sp l).2 ≤ 9 ∧ l.length ≤ 10 ∧ itoa (spN l) = l
theorem spN_bound (l : List UInt8) (h : (sp l).2 ≤ 9) : -999999999 ≤ spN l ∧ spN l ≤ 999999999 := by
  have hb := (sp_bound l).1
  have hp : 10 ^ (sp l).2 ≤ 1000000000 := Nat.pow_le_pow_right (n := 10) (by decide) h
  unfold spN
  split <;> omega
theorem rd_yes (l : List UInt8) (h : spOk l) : rd l = (spN l, true) := by
  obtain ⟨h1, h2, h3⟩ := h
  have hb := spN_bound l h1
  have ha := atoi_itoa (spN l) (by omega) (by omega)
  rw [h3] at ha
  unfold rd
  rw [ha]
  simp only []
  rw [if_pos ⟨hb.1, hb.2, h3⟩]
theorem rd_no (l : List UInt8) (h : ¬ spOk l) : rd l = (0, false) := by
  unfold rd
  split
  · rename_i v hv
    rw [if_neg]
    rintro ⟨h1, h2, h3⟩
    apply h
    subst h3
    have hl := decDigits_len 8 v.natAbs (by simp; omega)
    refine ⟨by rw [sp_itoa]; exact hl, ?_, by rw [spN_itoa]⟩
    unfold itoa
    split
    · simp; exact hl
    · rw [show v.toNat = v.natAbs from by omega]; omega
  · rfl
end Go.Proofs.YtglngepjphgpoaaDoor.Num
