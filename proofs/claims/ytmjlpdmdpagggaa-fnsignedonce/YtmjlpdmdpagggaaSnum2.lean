/- Plain definitions for SHA-256 of a text, of no Go text: what is put behind it, its blocks, the bytes of the answer. No conditions. -/
import Derived.Test.YtmjlpdmdpagggaaSnum
namespace Go.Proofs.Ytmjlpdmdpagggaa.Num
set_option linter.unusedVariables false
/-- How many bytes 0 stand behind the byte 128. -/
def zs (n : Nat) : Nat := (119 - n % 64) % 64
theorem zs_yes (n : Nat) : (n + (1 + zs n)) % 64 = 56 := by unfold zs; omega
theorem zs_no (n k : Nat) (h : k < zs n) : ¬ (n + (1 + k)) % 64 = 56 := by unfold zs at h; omega
theorem zs_lt (n : Nat) : zs n < 64 := by unfold zs; omega
/-- The byte number i of the length in bits. -/
def lenb (n i : Nat) : UInt8 := UInt8.ofNat (n * 8 / 2 ^ (56 - 8 * i) % 256)
def pad1 (n : Nat) : List UInt8 := 128 :: List.replicate (zs n) 0
def padl (n i : Nat) : List UInt8 := pad1 n ++ (List.range i).map (lenb n)
theorem padl_succ (n i : Nat) : padl n (i + 1) = padl n i ++ [lenb n i] := by
  unfold padl; rw [List.range_succ, List.map_append, List.append_assoc]; rfl
theorem length_padl (n i : Nat) : (padl n i).length = 1 + zs n + i := by
  simp [padl, pad1]; omega
/-- The state behind k blocks. -/
def blks (t : List UInt8) : Nat → V8
  | 0 => h0
  | k + 1 => blk (blks t k) ((t.drop (64 * k)).take 64)
def outb (x : Nat) : List UInt8 := [UInt8.ofNat (x / 16777216), UInt8.ofNat (x / 65536 % 256), UInt8.ofNat (x / 256 % 256), UInt8.ofNat (x % 256)]
/-- The bytes of the first i of some words. -/
def outl : List Nat → List UInt8
  | [] => []
  | x :: l => outb x ++ outl l
theorem outl_snoc (x : Nat) : ∀ l, outl (l ++ [x]) = outl l ++ outb x
  | [] => by simp [outl]
  | y :: l => by simp [outl, outl_snoc x l]
theorem length_outl : ∀ l, (outl l).length = 4 * l.length
  | [] => rfl
  | y :: l => by simp [outl, outb, length_outl l]; omega
def text (s : List UInt8) : List UInt8 := s ++ padl s.length 8
def shal (s : List UInt8) : List UInt8 := outl (blks (text s) ((text s).length / 64)).l
theorem length_text (s : List UInt8) : (text s).length = 64 * ((text s).length / 64) := by
  have h : (text s).length = s.length + (1 + zs s.length + 8) := by rw [text, List.length_append, length_padl]
  have := zs_yes s.length
  omega
theorem h0_lt : h0.lt := by unfold V8.lt; decide
theorem blk_lt (v : V8) (s : List UInt8) : (blk v s).lt := by
  refine ⟨?_, ?_, ?_, ?_, ?_, ?_, ?_, ?_⟩ <;> exact Nat.mod_lt _ (by decide)
theorem blks_lt (t : List UInt8) : ∀ k, (blks t k).lt
  | 0 => h0_lt
  | k + 1 => blk_lt _ _
theorem length_shal (s : List UInt8) : (shal s).length = 32 := by rw [shal, length_outl]; rfl
end Go.Proofs.Ytmjlpdmdpagggaa.Num
