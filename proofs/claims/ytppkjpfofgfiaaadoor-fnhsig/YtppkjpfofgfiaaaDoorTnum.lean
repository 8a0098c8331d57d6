/- Plain mathematics: on which side a leaf's way up stands at each step, from below; and a path led up by such steps. -/
import Derived.Test.YtppkjpfofgfiaaaDoorMnum
namespace Go.Proofs.YtppkjpfofgfiaaaDoor.Num
set_option linter.unusedVariables false
def turnsF : Nat → Nat → Nat → List Bool
  | 0, _, _ => []
  | f + 1, i, n => if n = 1 then [] else if i < spl n then turnsF f i (spl n) ++ [true] else turnsF f (i - spl n) (n - spl n) ++ [false]
theorem turnsF_fuel : ∀ (f g i n : Nat), 1 ≤ n → n ≤ f → n ≤ g → turnsF f i n = turnsF g i n
  | 0, g, i, n, h1, hf, hg => by omega
  | f + 1, 0, i, n, h1, hf, hg => by omega
  | f + 1, g + 1, i, n, h1, hf, hg => by
    unfold turnsF
    by_cases h : n = 1
    · rw [if_pos h, if_pos h]
    · have hs := spl_lt (n := n) (by omega)
      rw [if_neg h, if_neg h, turnsF_fuel f g i (spl n) (by omega) (by omega) (by omega), turnsF_fuel f g (i - spl n) (n - spl n) (by omega) (by omega) (by omega)]
def turns (i n : Nat) : List Bool := turnsF n i n
theorem turns_one (i : Nat) : turns i 1 = [] := by unfold turns turnsF; rw [if_pos rfl]
theorem turns_low (i n : Nat) (h : 2 ≤ n) (hi : i < spl n) : turns i n = turns i (spl n) ++ [true] := by
  have hs := spl_lt h
  obtain ⟨m, hm⟩ : ∃ m, n = m + 1 := ⟨n - 1, by omega⟩
  conv => lhs; unfold turns; rw [show turnsF n i n = turnsF (m + 1) i n from by rw [← hm]]; unfold turnsF
  rw [if_neg (by omega), if_pos hi]
  unfold turns
  rw [turnsF_fuel m (spl n) i (spl n) (by omega) (by omega) (Nat.le_refl _)]
theorem turns_high (i n : Nat) (h : 2 ≤ n) (hi : ¬ i < spl n) : turns i n = turns (i - spl n) (n - spl n) ++ [false] := by
  have hs := spl_lt h
  obtain ⟨m, hm⟩ : ∃ m, n = m + 1 := ⟨n - 1, by omega⟩
  conv => lhs; unfold turns; rw [show turnsF n i n = turnsF (m + 1) i n from by rw [← hm]]; unfold turnsF
  rw [if_neg (by omega), if_neg hi]
  unfold turns
  rw [turnsF_fuel m (n - spl n) (i - spl n) (n - spl n) (by omega) (by omega) (Nat.le_refl _)]
theorem length_turns : ∀ (f i n : Nat), n ≤ f → 1 ≤ n → (turns i n).length < n
  | 0, i, n, hf, h1 => by omega
  | f + 1, i, n, hf, h1 => by
    by_cases h : n = 1
    · subst h; rw [turns_one]; decide
    · have hs := spl_lt (n := n) (by omega)
      by_cases hi : i < spl n
      · rw [turns_low i n (by omega) hi, List.length_append]
        have := length_turns f i (spl n) (by omega) (by omega)
        simp; omega
      · rw [turns_high i n (by omega) hi, List.length_append]
        have := length_turns f (i - spl n) (n - spl n) (by omega) (by omega)
        simp; omega
/-- One step up. -/
def step1 (a : ByteArray) (t : Bool) (h : ByteArray) : ByteArray := if t = true then nodeH a h else nodeH h a
def foldUp (leaf : ByteArray) (ts : List Bool) (ps : List ByteArray) : ByteArray := (ts.zip ps).foldl (fun a q => step1 a q.1 q.2) leaf
theorem foldUp_nil (leaf : ByteArray) (ps : List ByteArray) : foldUp leaf [] ps = leaf := by simp [foldUp]
theorem foldUp_snoc (leaf : ByteArray) (ts : List Bool) (ps : List ByteArray) (t : Bool) (h : ByteArray) (hl : ts.length = ps.length) : foldUp leaf (ts ++ [t]) (ps ++ [h]) = step1 (foldUp leaf ts ps) t h := by
  unfold foldUp
  rw [List.zip_append hl, List.foldl_append]
  rfl
theorem foldUp_take (leaf : ByteArray) (ts : List Bool) (ps : List ByteArray) (k : Nat) (hl : ts.length = ps.length) (hk : k < ts.length) :
    foldUp leaf (ts.take (k + 1)) (ps.take (k + 1)) = step1 (foldUp leaf (ts.take k) (ps.take k)) ts[k] (ps[k]'(by omega)) := by
  rw [List.take_succ_eq_append_getElem hk, List.take_succ_eq_append_getElem (l := ps) (by omega)]
  exact foldUp_snoc leaf _ _ _ _ (by rw [List.length_take, List.length_take]; omega)
theorem size_step1 (a h : ByteArray) (t : Bool) : (step1 a t h).size = 32 := by unfold step1; split <;> exact size_nodeH _ _
theorem last_of (p : List ByteArray) (h : ¬ p.length = 0) : p = p.take (p.length - 1) ++ [p.getD (p.length - 1) ⟨#[]⟩] := by
  have hlt : p.length - 1 < p.length := by omega
  conv => lhs; rw [← List.take_length (l := p), show p.length = (p.length - 1) + 1 from by omega, List.take_succ_eq_append_getElem hlt]
  rw [List.getD_eq_getElem?_getD, List.getElem?_eq_getElem hlt]; rfl
theorem upL_turns (leaf : ByteArray) : ∀ (f i n : Nat) (p : List ByteArray), n ≤ f → 1 ≤ n → ((upL leaf i n p).2 = decide (p.length = (turns i n).length)) ∧ (p.length = (turns i n).length → (upL leaf i n p).1 = foldUp leaf (turns i n) p)
  | 0, i, n, p, hf, h1 => by omega
  | f + 1, i, n, p, hf, h1 => by
    by_cases h : n = 1
    · subst h
      rw [upL_one, turns_one]
      exact ⟨by show (p.length == 0) = decide (p.length = 0); rw [Bool.eq_iff_iff, beq_iff_eq, decide_eq_true_iff], fun _ => (foldUp_nil _ _).symm⟩
    · have hs := spl_lt (n := n) (by omega)
      by_cases hp : p.length = 0
      · rw [upL_none leaf i n p (by omega) hp]
        have hpos : 0 < (turns i n).length := by
          by_cases hi : i < spl n
          · rw [turns_low i n (by omega) hi]; simp
          · rw [turns_high i n (by omega) hi]; simp
        exact ⟨by simp; omega, fun e => by omega⟩
      · have hl := last_of p hp
        have hlen : (p.take (p.length - 1)).length = p.length - 1 := by rw [List.length_take]; omega
        by_cases hi : i < spl n
        · obtain ⟨e1, e2⟩ := upL_turns leaf f i (spl n) (p.take (p.length - 1)) (by omega) (by omega)
          rw [upL_low leaf i n p (by omega) hp hi, turns_low i n (by omega) hi]
          refine ⟨?_, fun e => ?_⟩
          · show (upL leaf i (spl n) (p.take (p.length - 1))).2 = _
            rw [e1, hlen, List.length_append]
            simp only [List.length_singleton, decide_eq_decide]
            omega
          · rw [List.length_append, List.length_singleton] at e
            show nodeH (upL leaf i (spl n) (p.take (p.length - 1))).1 _ = _
            rw [e2 (by omega)]
            conv => rhs; rw [hl, foldUp_snoc leaf _ _ _ _ (by omega)]
            rfl
        · obtain ⟨e1, e2⟩ := upL_turns leaf f (i - spl n) (n - spl n) (p.take (p.length - 1)) (by omega) (by omega)
          rw [upL_high leaf i n p (by omega) hp hi, turns_high i n (by omega) hi]
          refine ⟨?_, fun e => ?_⟩
          · show (upL leaf (i - spl n) (n - spl n) (p.take (p.length - 1))).2 = _
            rw [e1, hlen, List.length_append]
            simp only [List.length_singleton, decide_eq_decide]
            omega
          · rw [List.length_append, List.length_singleton] at e
            show nodeH _ (upL leaf (i - spl n) (n - spl n) (p.take (p.length - 1))).1 = _
            rw [e2 (by omega)]
            conv => rhs; rw [hl, foldUp_snoc leaf _ _ _ _ (by omega)]
            rfl
theorem pathR_no (leaf : ByteArray) (i n : Int) (p : List ByteArray) (h : ¬ (0 ≤ i ∧ i < n ∧ n ≤ 40)) : pathR leaf i n p = (⟨#[]⟩, false) := by
  unfold pathR; rw [if_pos (by omega)]
theorem pathR_off (leaf : ByteArray) (i n : Nat) (p : List ByteArray) (h : i < n) (h4 : n ≤ 40) (hp : ¬ p.length = (turns i n).length) : pathR leaf (i : Int) (n : Int) p = (⟨#[]⟩, false) := by
  unfold pathR; rw [if_neg (by omega), Int.toNat_natCast, Int.toNat_natCast, (upL_turns leaf n i n p (Nat.le_refl _) (by omega)).1, if_neg (by simpa using hp)]
theorem pathR_on (leaf : ByteArray) (i n : Nat) (p : List ByteArray) (h : i < n) (h4 : n ≤ 40) (hp : p.length = (turns i n).length) : pathR leaf (i : Int) (n : Int) p = (foldUp leaf (turns i n) p, true) := by
  unfold pathR; rw [if_neg (by omega), Int.toNat_natCast, Int.toNat_natCast, (upL_turns leaf n i n p (Nat.le_refl _) (by omega)).1, if_pos (by simpa using hp), (upL_turns leaf n i n p (Nat.le_refl _) (by omega)).2 hp]
end Go.Proofs.YtppkjpfofgfiaaaDoor.Num
