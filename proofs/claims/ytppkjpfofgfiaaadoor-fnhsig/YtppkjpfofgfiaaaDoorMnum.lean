/- Plain definitions for trees of hashes, of no Go text: a leaf's hash, a node's, the greatest power of two below a number, a tree's root, a leaf's path, the root that a path leads to. No conditions. -/
import Derived.Test.YtppkjpfofgfiaaaDoorSnum2
namespace Go.Proofs.YtppkjpfofgfiaaaDoor.Num
set_option linter.unusedVariables false
def shaB (x : ByteArray) : ByteArray := ⟨(shal x.data.toList).toArray⟩
theorem size_shaB (x : ByteArray) : (shaB x).size = 32 := by
  show (shal x.data.toList).toArray.size = 32
  rw [List.size_toArray, length_shal]
def leafH (x : ByteArray) : ByteArray := shaB (⟨#[0]⟩ ++ x)
def nodeH (a b : ByteArray) : ByteArray := shaB (⟨#[1]⟩ ++ a ++ b)
theorem size_leafH (x : ByteArray) : (leafH x).size = 32 := size_shaB _
theorem size_nodeH (a b : ByteArray) : (nodeH a b).size = 32 := size_shaB _
/-- The greatest power of two below n: doubled while twice it is below. -/
def splF (n : Nat) : Nat → Nat → Nat
  | 0, k => k
  | f + 1, k => if 2 * k < n then splF n f (2 * k) else k
def spl (n : Nat) : Nat := splF n n 1
theorem splF_lt (n : Nat) : ∀ f k, 1 ≤ k → k < n → 1 ≤ splF n f k ∧ splF n f k < n
  | 0, k, h1, h2 => ⟨h1, h2⟩
  | f + 1, k, h1, h2 => by
    unfold splF
    split
    · rename_i h
      exact splF_lt n f (2 * k) (by omega) h
    · exact ⟨h1, h2⟩
theorem spl_lt {n : Nat} (h : 2 ≤ n) : 1 ≤ spl n ∧ spl n < n := splF_lt n n 1 (by omega) (by omega)
theorem splF_done (n : Nat) : ∀ f k, ¬ 2 * k < n → splF n f k = k
  | 0, k, h => rfl
  | f + 1, k, h => by unfold splF; rw [if_neg h]
/-- More rounds than needed change nothing. -/
theorem splF_fuel (n : Nat) : ∀ f g k, 1 ≤ k → n ≤ k + f → n ≤ k + g → splF n f k = splF n g k
  | 0, g, k, h1, hf, hg => by rw [splF_done n g k (by omega)]; rfl
  | f + 1, 0, k, h1, hf, hg => by rw [splF_done n (f + 1) k (by omega)]; rfl
  | f + 1, g + 1, k, h1, hf, hg => by
    unfold splF
    split
    · exact splF_fuel n f g (2 * k) (by omega) (by omega) (by omega)
    · rfl
theorem spl_step (n k : Nat) (h1 : 1 ≤ k) (h : 2 * k < n) (he : spl n = splF n n k) : spl n = splF n n (2 * k) := by
  rw [he]
  obtain ⟨m, rfl⟩ : ∃ m, n = m + 1 := ⟨n - 1, by omega⟩
  conv => lhs; unfold splF
  rw [if_pos h]
  exact splF_fuel (m + 1) m (m + 1) (2 * k) (by omega) (by omega) (by omega)
theorem spl_end (n k : Nat) (h : ¬ 2 * k < n) (he : spl n = splF n n k) : spl n = k := by
  rw [he, splF_done n n k h]
/-- A tree's root. -/
def rootF : Nat → List ByteArray → ByteArray
  | 0, _ => ⟨#[]⟩
  | f + 1, l => if l.length = 1 then leafH (l.getD 0 ⟨#[]⟩) else nodeH (rootF f (l.take (spl l.length))) (rootF f (l.drop (spl l.length)))
theorem rootF_fuel : ∀ (f g : Nat) (l : List ByteArray), 1 ≤ l.length → l.length ≤ f → l.length ≤ g → rootF f l = rootF g l
  | 0, g, l, h1, hf, hg => by omega
  | f + 1, 0, l, h1, hf, hg => by omega
  | f + 1, g + 1, l, h1, hf, hg => by
    unfold rootF
    by_cases h : l.length = 1
    · rw [if_pos h, if_pos h]
    · rw [if_neg h, if_neg h]
      have := spl_lt (n := l.length) (by omega)
      rw [rootF_fuel f g (l.take (spl l.length)) (by rw [List.length_take]; omega) (by rw [List.length_take]; omega) (by rw [List.length_take]; omega)]
      rw [rootF_fuel f g (l.drop (spl l.length)) (by rw [List.length_drop]; omega) (by rw [List.length_drop]; omega) (by rw [List.length_drop]; omega)]
def rootL (l : List ByteArray) : ByteArray := rootF l.length l
theorem rootL_one (l : List ByteArray) (h : l.length = 1) : rootL l = leafH (l.getD 0 ⟨#[]⟩) := by
  unfold rootL; rw [h]; unfold rootF; rw [if_pos h]
theorem rootL_more (l : List ByteArray) (h : 2 ≤ l.length) : rootL l = nodeH (rootL (l.take (spl l.length))) (rootL (l.drop (spl l.length))) := by
  have hs := spl_lt h
  obtain ⟨m, hm⟩ : ∃ m, l.length = m + 1 := ⟨l.length - 1, by omega⟩
  conv => lhs; unfold rootL; rw [hm]; unfold rootF
  rw [if_neg (by omega)]
  unfold rootL
  rw [rootF_fuel m _ (l.take (spl l.length)) (by rw [List.length_take]; omega) (by rw [List.length_take]; omega) (Nat.le_refl _)]
  rw [rootF_fuel m _ (l.drop (spl l.length)) (by rw [List.length_drop]; omega) (by rw [List.length_drop]; omega) (Nat.le_refl _)]
theorem size_rootL (l : List ByteArray) (h : 1 ≤ l.length) : (rootL l).size = 32 := by
  by_cases h1 : l.length = 1
  · rw [rootL_one l h1]; exact size_leafH _
  · rw [rootL_more l (by omega)]; exact size_nodeH _ _
/-- What TreeRoot answers. -/
def treeR (l : List ByteArray) : ByteArray := if 40 < l.length then ⟨#[]⟩ else if l.length = 0 then shaB ⟨#[]⟩ else rootL l
/-- A leaf's path, from below. -/
def pathF : Nat → List ByteArray → Nat → List ByteArray
  | 0, _, _ => []
  | f + 1, l, i => if l.length = 1 then [] else if i < spl l.length then pathF f (l.take (spl l.length)) i ++ [rootL (l.drop (spl l.length))] else pathF f (l.drop (spl l.length)) (i - spl l.length) ++ [rootL (l.take (spl l.length))]
theorem pathF_fuel : ∀ (f g : Nat) (l : List ByteArray) (i : Nat), 1 ≤ l.length → l.length ≤ f → l.length ≤ g → pathF f l i = pathF g l i
  | 0, g, l, i, h1, hf, hg => by omega
  | f + 1, 0, l, i, h1, hf, hg => by omega
  | f + 1, g + 1, l, i, h1, hf, hg => by
    unfold pathF
    by_cases h : l.length = 1
    · rw [if_pos h, if_pos h]
    · rw [if_neg h, if_neg h]
      have := spl_lt (n := l.length) (by omega)
      rw [pathF_fuel f g (l.take (spl l.length)) i (by rw [List.length_take]; omega) (by rw [List.length_take]; omega) (by rw [List.length_take]; omega)]
      rw [pathF_fuel f g (l.drop (spl l.length)) _ (by rw [List.length_drop]; omega) (by rw [List.length_drop]; omega) (by rw [List.length_drop]; omega)]
def pathL (l : List ByteArray) (i : Nat) : List ByteArray := pathF l.length l i
theorem pathL_one (l : List ByteArray) (i : Nat) (h : l.length = 1) : pathL l i = [] := by
  unfold pathL; rw [h]; unfold pathF; rw [if_pos h]
theorem pathL_low (l : List ByteArray) (i : Nat) (h : 2 ≤ l.length) (hi : i < spl l.length) : pathL l i = pathL (l.take (spl l.length)) i ++ [rootL (l.drop (spl l.length))] := by
  have hs := spl_lt h
  obtain ⟨m, hm⟩ : ∃ m, l.length = m + 1 := ⟨l.length - 1, by omega⟩
  conv => lhs; unfold pathL; rw [hm]; unfold pathF
  rw [if_neg (by omega), if_pos hi]
  unfold pathL
  rw [pathF_fuel m _ (l.take (spl l.length)) i (by rw [List.length_take]; omega) (by rw [List.length_take]; omega) (Nat.le_refl _)]
theorem pathL_high (l : List ByteArray) (i : Nat) (h : 2 ≤ l.length) (hi : ¬ i < spl l.length) : pathL l i = pathL (l.drop (spl l.length)) (i - spl l.length) ++ [rootL (l.take (spl l.length))] := by
  have hs := spl_lt h
  obtain ⟨m, hm⟩ : ∃ m, l.length = m + 1 := ⟨l.length - 1, by omega⟩
  conv => lhs; unfold pathL; rw [hm]; unfold pathF
  rw [if_neg (by omega), if_neg hi]
  unfold pathL
  rw [pathF_fuel m _ (l.drop (spl l.length)) _ (by rw [List.length_drop]; omega) (by rw [List.length_drop]; omega) (Nat.le_refl _)]
/-- What TreePath answers. -/
def treeP (l : List ByteArray) (i : Int) : List ByteArray := if 40 < l.length ∨ i < 0 ∨ (l.length : Int) ≤ i then [] else pathL l i.toNat
/-- How long a path is. -/
def plenF : Nat → Nat → Nat → Nat
  | 0, _, _ => 0
  | f + 1, n, i => if n = 1 then 0 else if i < spl n then plenF f (spl n) i + 1 else plenF f (n - spl n) (i - spl n) + 1
/-- The root that a path leads to, and whether it is as long as it should be. -/
def upF : Nat → ByteArray → Nat → Nat → List ByteArray → ByteArray × Bool
  | 0, _, _, _, _ => (⟨#[]⟩, false)
  | f + 1, leaf, i, n, p =>
    if n = 1 then (leaf, p.length == 0) else if p.length = 0 then (⟨#[]⟩, false)
    else if i < spl n then (nodeH (upF f leaf i (spl n) (p.take (p.length - 1))).1 (p.getD (p.length - 1) ⟨#[]⟩), (upF f leaf i (spl n) (p.take (p.length - 1))).2)
    else (nodeH (p.getD (p.length - 1) ⟨#[]⟩) (upF f leaf (i - spl n) (n - spl n) (p.take (p.length - 1))).1, (upF f leaf (i - spl n) (n - spl n) (p.take (p.length - 1))).2)
theorem upF_fuel : ∀ (f g : Nat) (leaf : ByteArray) (i n : Nat) (p : List ByteArray), 1 ≤ n → n ≤ f → n ≤ g → upF f leaf i n p = upF g leaf i n p
  | 0, g, leaf, i, n, p, h1, hf, hg => by omega
  | f + 1, 0, leaf, i, n, p, h1, hf, hg => by omega
  | f + 1, g + 1, leaf, i, n, p, h1, hf, hg => by
    unfold upF
    by_cases h : n = 1
    · rw [if_pos h, if_pos h]
    · rw [if_neg h, if_neg h]
      have := spl_lt (n := n) (by omega)
      rw [upF_fuel f g leaf i (spl n) _ (by omega) (by omega) (by omega)]
      rw [upF_fuel f g leaf (i - spl n) (n - spl n) _ (by omega) (by omega) (by omega)]
def upL (leaf : ByteArray) (i n : Nat) (p : List ByteArray) : ByteArray × Bool := upF n leaf i n p
theorem upL_one (leaf : ByteArray) (i : Nat) (p : List ByteArray) : upL leaf i 1 p = (leaf, p.length == 0) := by
  unfold upL upF; rw [if_pos rfl]
theorem upL_none (leaf : ByteArray) (i n : Nat) (p : List ByteArray) (h : 2 ≤ n) (hp : p.length = 0) : upL leaf i n p = (⟨#[]⟩, false) := by
  obtain ⟨m, rfl⟩ : ∃ m, n = m + 1 := ⟨n - 1, by omega⟩
  unfold upL upF; rw [if_neg (by omega), if_pos hp]
theorem upL_low (leaf : ByteArray) (i n : Nat) (p : List ByteArray) (h : 2 ≤ n) (hp : ¬ p.length = 0) (hi : i < spl n) :
    upL leaf i n p = (nodeH (upL leaf i (spl n) (p.take (p.length - 1))).1 (p.getD (p.length - 1) ⟨#[]⟩), (upL leaf i (spl n) (p.take (p.length - 1))).2) := by
  have hs := spl_lt h
  obtain ⟨m, hm⟩ : ∃ m, n = m + 1 := ⟨n - 1, by omega⟩
  conv => lhs; unfold upL; rw [show upF n leaf i n p = upF (m + 1) leaf i n p from by rw [← hm]]; unfold upF
  rw [if_neg (by omega), if_neg hp, if_pos hi]
  unfold upL
  rw [upF_fuel m (spl n) leaf i (spl n) _ (by omega) (by omega) (Nat.le_refl _)]
theorem upL_high (leaf : ByteArray) (i n : Nat) (p : List ByteArray) (h : 2 ≤ n) (hp : ¬ p.length = 0) (hi : ¬ i < spl n) :
    upL leaf i n p = (nodeH (p.getD (p.length - 1) ⟨#[]⟩) (upL leaf (i - spl n) (n - spl n) (p.take (p.length - 1))).1, (upL leaf (i - spl n) (n - spl n) (p.take (p.length - 1))).2) := by
  have hs := spl_lt h
  obtain ⟨m, hm⟩ : ∃ m, n = m + 1 := ⟨n - 1, by omega⟩
  conv => lhs; unfold upL; rw [show upF n leaf i n p = upF (m + 1) leaf i n p from by rw [← hm]]; unfold upF
  rw [if_neg (by omega), if_neg hp, if_neg hi]
  unfold upL
  rw [upF_fuel m (n - spl n) leaf (i - spl n) (n - spl n) _ (by omega) (by omega) (Nat.le_refl _)]
/-- What PathRoot answers. -/
def pathR (leaf : ByteArray) (i n : Int) (p : List ByteArray) : ByteArray × Bool :=
  if i < 0 ∨ n ≤ i ∨ 40 < n then (⟨#[]⟩, false) else if (upL leaf i.toNat n.toNat p).2 = true then ((upL leaf i.toNat n.toNat p).1, true) else (⟨#[]⟩, false)
def incl (root data : ByteArray) (i n : Int) (p : List ByteArray) : Bool := (pathR (leafH data) i n p).2 && (pathR (leafH data) i n p).1.toList == root.toList
end Go.Proofs.YtppkjpfofgfiaaaDoor.Num
