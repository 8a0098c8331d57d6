/- Plain facts on the sum of chapter 2, of no Go text: a step of one bit, eight to a byte; by tables of any width. No conditions. -/
namespace Go.Proofs.YtdpjlfgfacjfeaaDoor.Num
set_option linter.unusedVariables false
/-- One bit's step. -/
def cs (c : Nat) : Nat := if c % 2 = 1 then c / 2 ^^^ 2197175160 else c / 2
/-- n steps. -/
def csn : Nat → Nat → Nat
  | 0, c => c
  | n + 1, c => csn n (cs c)
/-- The state behind the bytes of a list. -/
def crl (c : Nat) : List UInt8 → Nat
  | [] => c
  | b :: l => crl (csn 8 (c ^^^ b.toNat)) l
theorem csn_succ (n : Nat) : ∀ c, csn (n + 1) c = cs (csn n c) := by
  induction n with
  | zero => intro c; rfl
  | succ n ih => intro c; show csn (n + 1) (cs c) = _; rw [ih]; rfl
theorem csn_add (n m : Nat) : ∀ c, csn (n + m) c = csn m (csn n c) := by
  induction n with
  | zero => intro c; simp [csn]
  | succ n ih => intro c; rw [Nat.add_right_comm]; show csn (n + m) (cs c) = csn m (csn n (cs c)); exact ih _
theorem crl_snoc (b : UInt8) : ∀ (l : List UInt8) (c : Nat), crl c (l ++ [b]) = csn 8 (crl c l ^^^ b.toNat)
  | [], c => rfl
  | d :: l, c => crl_snoc b l _
theorem cs_lt {c : Nat} (h : c < 4294967296) : cs c < 4294967296 := by
  unfold cs
  split
  · exact Nat.xor_lt_two_pow (n := 32) (by omega) (by omega)
  · omega
theorem csn_lt : ∀ (n : Nat) {c : Nat}, c < 4294967296 → csn n c < 4294967296
  | 0, c, h => h
  | n + 1, c, h => csn_lt n (cs_lt h)
theorem byte_lt {c : Nat} (h : c < 4294967296) (b : UInt8) : c ^^^ b.toNat < 4294967296 :=
  Nat.xor_lt_two_pow (n := 32) (by omega) (by have := b.toNat_lt; omega)
theorem crl_lt : ∀ (l : List UInt8) {c : Nat}, c < 4294967296 → crl c l < 4294967296
  | [], c, h => h
  | b :: l, c, h => crl_lt l (csn_lt 8 (byte_lt h b))
theorem cs_xor (a b : Nat) : cs (a ^^^ b) = cs a ^^^ cs b := by
  have h2 : (a ^^^ b) / 2 = a / 2 ^^^ b / 2 := Nat.xor_div_two
  have hm : (a ^^^ b) % 2 = (a % 2 + b % 2) % 2 := by
    have h := @Nat.xor_mod_two_pow a b 1
    rw [show (2 : Nat) ^ 1 = 2 from rfl] at h
    rw [h]
    rcases Nat.mod_two_eq_zero_or_one a with ha | ha <;> rcases Nat.mod_two_eq_zero_or_one b with hb | hb <;> rw [ha, hb] <;> rfl
  unfold cs
  rw [h2, hm]
  rcases Nat.mod_two_eq_zero_or_one a with ha | ha <;> rcases Nat.mod_two_eq_zero_or_one b with hb | hb
  · simp [ha, hb]
  · simp [ha, hb, Nat.xor_assoc]
  · simp [ha, hb]; rw [Nat.xor_assoc, Nat.xor_comm (b / 2), ← Nat.xor_assoc]
  · simp [ha, hb]
    rw [Nat.xor_assoc, ← Nat.xor_assoc 2197175160, Nat.xor_comm 2197175160 (b / 2), Nat.xor_assoc (b / 2), Nat.xor_self, Nat.xor_zero]
theorem csn_xor : ∀ (n a b : Nat), csn n (a ^^^ b) = csn n a ^^^ csn n b
  | 0, a, b => rfl
  | n + 1, a, b => by show csn n (cs (a ^^^ b)) = _; rw [cs_xor, csn_xor n]; rfl
theorem csn_shift : ∀ (n x : Nat), csn n (x * 2 ^ n) = x
  | 0, x => by simp [csn]
  | n + 1, x => by
    show csn n (cs (x * 2 ^ (n + 1))) = x
    have e : cs (x * 2 ^ (n + 1)) = x * 2 ^ n := by
      have e2 : x * 2 ^ (n + 1) = 2 * (x * 2 ^ n) := by rw [Nat.pow_succ]; rw [← Nat.mul_assoc, Nat.mul_comm]
      unfold cs
      rw [e2]
      have h1 : ¬ 2 * (x * 2 ^ n) % 2 = 1 := by omega
      rw [if_neg h1]; omega
    rw [e, csn_shift n x]
theorem split_low (n c : Nat) : c = (c / 2 ^ n * 2 ^ n) ^^^ (c % 2 ^ n) := by
  apply Nat.eq_of_testBit_eq
  intro i
  rw [Nat.testBit_xor, Nat.testBit_mod_two_pow, Nat.mul_comm, Nat.testBit_two_pow_mul, Nat.testBit_div_two_pow]
  by_cases h : i < n
  · have h' : ¬ n ≤ i := by omega
    simp [h, h']
  · have h' : n ≤ i := by omega
    simp [h, h', Nat.sub_add_cancel h']
/-- n steps at once by a table of the lowest n bits. -/
theorem csn_table (n c : Nat) : csn n c = c / 2 ^ n ^^^ csn n (c % 2 ^ n) := by
  have h := congrArg (csn n) (split_low n c)
  rw [csn_xor, csn_shift] at h
  exact h
/-- A byte by two halves. -/
theorem csn_8 (c : Nat) : csn 8 c = csn 4 (csn 4 c) := csn_add 4 4 c
theorem csn_4 (c : Nat) : csn 4 c = c / 16 ^^^ csn 4 (c % 16) := csn_table 4 c
theorem csn_8t (c : Nat) : csn 8 c = c / 256 ^^^ csn 8 (c % 256) := csn_table 8 c
/-- The table of sixteen. -/
theorem table16 : (List.range 16).map (csn 4) = [0, 274646895, 549293790, 820201905, 1098587580, 1361435347, 1640403810, 1905808397, 2197175160, 2460548119, 2722870694, 2987750089, 3280807620, 3553878443, 3811616794, 4084100981] := by decide
end Go.Proofs.YtdpjlfgfacjfeaaDoor.Num
