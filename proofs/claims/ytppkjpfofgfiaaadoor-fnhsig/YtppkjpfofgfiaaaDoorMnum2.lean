/- Plain facts of trees of hashes: a leaf's path leads to the root; a path of another length leads nowhere. No conditions. -/
import Derived.Test.YtppkjpfofgfiaaaDoorMnum
import Derived.Laws.IdiomStrings
namespace Go.Proofs.YtppkjpfofgfiaaaDoor.Num
set_option linter.unusedVariables false
theorem up_path : ∀ (f : Nat) (l : List ByteArray) (i : Nat) (h : i < l.length), l.length ≤ f → upL (leafH l[i]) i l.length (pathL l i) = (rootL l, true)
  | 0, l, i, h, hf => by omega
  | f + 1, l, i, h, hf => by
    by_cases h1 : l.length = 1
    · obtain rfl : i = 0 := by omega
      rw [pathL_one l 0 h1, h1, upL_one, rootL_one l h1]
      congr 1
      rw [List.getD_eq_getElem?_getD, List.getElem?_eq_getElem h]; rfl
    · have h2 : 2 ≤ l.length := by omega
      have hs := spl_lt h2
      by_cases hi : i < spl l.length
      · have hl : (l.take (spl l.length)).length = spl l.length := by rw [List.length_take]; omega
        have hx : (l.take (spl l.length))[i]'(by omega) = l[i] := by simp
        have ih := up_path f (l.take (spl l.length)) i (by omega) (by omega)
        rw [hx, hl] at ih
        rw [pathL_low l i h2 hi, upL_low _ _ _ _ h2 (by simp) hi]
        simp only [List.length_append, List.length_singleton, Nat.add_sub_cancel]
        rw [List.take_left, ih, rootL_more l h2]
        simp
      · have hl : (l.drop (spl l.length)).length = l.length - spl l.length := List.length_drop
        have hx : (l.drop (spl l.length))[i - spl l.length]'(by omega) = l[i] := by
          rw [List.getElem_drop]; congr 1; omega
        have ih := up_path f (l.drop (spl l.length)) (i - spl l.length) (by omega) (by omega)
        rw [hx, hl] at ih
        rw [pathL_high l i h2 hi, upL_high _ _ _ _ h2 (by simp) hi]
        simp only [List.length_append, List.length_singleton, Nat.add_sub_cancel]
        rw [List.take_left, ih, rootL_more l h2]
        simp
theorem up_len : ∀ (f n : Nat) (a b : ByteArray) (i : Nat) (p q : List ByteArray), 1 ≤ n → n ≤ f → (upL a i n p).2 = true → (upL b i n q).2 = true → p.length = q.length
  | 0, n, a, b, i, p, q, h1, hf, hp, hq => by omega
  | f + 1, n, a, b, i, p, q, h1, hf, hp, hq => by
    by_cases hn : n = 1
    · subst hn
      rw [upL_one] at hp hq
      have e1 : p.length = 0 := by simpa using hp
      have e2 : q.length = 0 := by simpa using hq
      omega
    · have h2 : 2 ≤ n := by omega
      have hs := spl_lt h2
      have p0 : ¬ p.length = 0 := fun e => by rw [upL_none a i n p h2 e] at hp; cases hp
      have q0 : ¬ q.length = 0 := fun e => by rw [upL_none b i n q h2 e] at hq; cases hq
      by_cases hi : i < spl n
      · rw [upL_low a i n p h2 p0 hi] at hp
        rw [upL_low b i n q h2 q0 hi] at hq
        have := up_len f (spl n) a b i _ _ (by omega) (by omega) hp hq
        rw [List.length_take, List.length_take] at this
        omega
      · rw [upL_high a i n p h2 p0 hi] at hp
        rw [upL_high b i n q h2 q0 hi] at hq
        have := up_len f (n - spl n) a b (i - spl n) _ _ (by omega) (by omega) hp hq
        rw [List.length_take, List.length_take] at this
        omega
theorem mem_pathL : ∀ (f : Nat) (l : List ByteArray) (i : Nat), 1 ≤ l.length → l.length ≤ f → ∀ s ∈ pathL l i, s.size = 32
  | 0, l, i, h1, hf => by omega
  | f + 1, l, i, h1, hf => by
    by_cases h : l.length = 1
    · rw [pathL_one l i h]
      intro s hs; cases hs
    · have h2 : 2 ≤ l.length := by omega
      have hs := spl_lt h2
      by_cases hi : i < spl l.length
      · rw [pathL_low l i h2 hi]
        intro s hm
        rcases List.mem_append.1 hm with hm | hm
        · exact mem_pathL f (l.take (spl l.length)) i (by rw [List.length_take]; omega) (by rw [List.length_take]; omega) s hm
        · rw [List.mem_singleton.1 hm]; exact size_rootL _ (by rw [List.length_drop]; omega)
      · rw [pathL_high l i h2 hi]
        intro s hm
        rcases List.mem_append.1 hm with hm | hm
        · exact mem_pathL f (l.drop (spl l.length)) _ (by rw [List.length_drop]; omega) (by rw [List.length_drop]; omega) s hm
        · rw [List.mem_singleton.1 hm]; exact size_rootL _ (by rw [List.length_take]; omega)
theorem mem_treeP (l : List ByteArray) (i : Int) : ∀ s ∈ treeP l i, s.size = 32 := by
  unfold treeP
  split
  · intro s hs; cases hs
  · exact mem_pathL l.length l i.toNat (by omega) (Nat.le_refl _)
theorem treeP_in (l : List ByteArray) (i : Nat) (h : i < l.length) (h40 : l.length ≤ 40) : treeP l i = pathL l i := by
  unfold treeP
  rw [if_neg (by omega), Int.toNat_natCast]
theorem treeR_in (l : List ByteArray) (h : 1 ≤ l.length) (h40 : l.length ≤ 40) : treeR l = rootL l := by
  unfold treeR
  rw [if_neg (by omega), if_neg (by omega)]
theorem size_treeR (l : List ByteArray) (h40 : l.length ≤ 40) : (treeR l).size = 32 := by
  unfold treeR
  rw [if_neg (by omega)]
  split
  · exact size_shaB _
  · exact size_rootL l (by omega)
theorem pathR_in (leaf : ByteArray) (i n : Nat) (p : List ByteArray) (h : i < n) (h40 : n ≤ 40) : pathR leaf i n p = if (upL leaf i n p).2 = true then ((upL leaf i n p).1, true) else (⟨#[]⟩, false) := by
  unfold pathR
  rw [if_neg (by omega), Int.toNat_natCast, Int.toNat_natCast]
/-- Each leaf is shown to be in by its path. -/
theorem incl_yes (l : List ByteArray) (i : Nat) (h : i < l.length) (h40 : l.length ≤ 40) : incl (treeR l) l[i] i l.length (treeP l i) = true := by
  unfold incl
  rw [treeP_in l i h h40, treeR_in l (by omega) h40, pathR_in _ i l.length _ h h40, up_path l.length l i h (Nat.le_refl _)]
  simp
/-- A path that lacks one shows nothing. -/
theorem incl_short (l : List ByteArray) (i : Nat) (h : i < l.length) (h40 : l.length ≤ 40) (hp : 0 < (treeP l i).length) (r d : ByteArray) : incl r d i l.length ((treeP l i).drop 1) = false := by
  rw [treeP_in l i h h40] at hp ⊢
  unfold incl
  rw [pathR_in _ i l.length _ h h40, if_neg]
  · rfl
  · intro e
    have := up_len l.length l.length _ _ i _ _ (by omega) (Nat.le_refl _) e (by rw [up_path l.length l i h (Nat.le_refl _)])
    rw [List.length_drop] at this
    omega
end Go.Proofs.YtppkjpfofgfiaaaDoor.Num
