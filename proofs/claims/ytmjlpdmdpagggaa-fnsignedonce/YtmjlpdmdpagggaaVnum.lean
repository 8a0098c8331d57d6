/- Plain facts on numbers written seven bits to a byte, of no Go text. No conditions. -/
import Derived.Test.YtmjlpdmdpagggaaNum
namespace Go.Proofs.Ytmjlpdmdpagggaa.Num
/-- A number's bytes, seven bits each, the lowest first; fuel many that go on. -/
def vl : Nat → Int → List UInt8
  | 0, n => [UInt8.ofNat n.toNat]
  | f + 1, n => if n < 128 then [UInt8.ofNat n.toNat] else UInt8.ofNat (128 + n % 128).toNat :: vl f (n / 128)
theorem vl_small (f : Nat) (n : Int) (h : n < 128) : vl f n = [UInt8.ofNat n.toNat] := by
  cases f with
  | zero => rfl
  | succ f => simp [vl, h]
theorem vl_great (f : Nat) (n : Int) (h : 128 ≤ n) : vl (f + 1) n = UInt8.ofNat (128 + n % 128).toNat :: vl f (n / 128) := by
  simp [vl, show ¬ n < 128 from by omega]
theorem vbound (k : Nat) (m : Int) (hk : k ≤ 6) (h : 128 ≤ m) (hb : m < 128 ^ (7 - k)) : k ≤ 5 ∧ m / 128 < 128 ^ (7 - (k + 1)) := by
  have : k = 0 ∨ k = 1 ∨ k = 2 ∨ k = 3 ∨ k = 4 ∨ k = 5 ∨ k = 6 := by omega
  rcases this with h | h | h | h | h | h | h <;> subst h <;> first | omega | (simp at hb ⊢; omega)
def varOk (n : Int) : Bool := decide (0 ≤ n) && decide (n ≤ 562949953421311)
def var (n : Int) : ByteArray := bif varOk n then ⟨(vl 6 n).toArray⟩ else ⟨#[]⟩
theorem var_no (n : Int) (h : n < 0 ∨ 562949953421311 < n) : var n = ⟨#[]⟩ := by
  have : varOk n = false := by
    unfold varOk
    rcases h with h | h
    · simp [show ¬ (0 ≤ n) from by omega]
    · simp [show ¬ (n ≤ 562949953421311) from by omega]
  simp [var, this]
theorem var_yes (n : Int) (h : 0 ≤ n) (h' : n ≤ 562949953421311) : var n = ⟨(vl 6 n).toArray⟩ := by
  simp [var, varOk, h, h']
end Go.Proofs.Ytmjlpdmdpagggaa.Num
