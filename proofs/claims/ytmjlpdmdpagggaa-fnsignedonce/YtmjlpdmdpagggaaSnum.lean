/- Plain definitions of SHA-256 on numbers below 2 to the 32, of no Go text, and their bounds. No conditions. -/
namespace Go.Proofs.Ytmjlpdmdpagggaa.Num
set_option linter.unusedVariables false
/-- Turned to the right by n of 32 bits. -/
def rr (n x : Nat) : Nat := (x / 2 ^ n ||| x * 2 ^ (32 - n)) % 4294967296
def sg0 (x : Nat) : Nat := rr 7 x ^^^ rr 18 x ^^^ x / 8
def sg1 (x : Nat) : Nat := rr 17 x ^^^ rr 19 x ^^^ x / 1024
def sm1 (e : Nat) : Nat := rr 6 e ^^^ rr 11 e ^^^ rr 25 e
def sm0 (a : Nat) : Nat := rr 2 a ^^^ rr 13 a ^^^ rr 22 a
def chs (e f g : Nat) : Nat := (e &&& f) ^^^ ((4294967295 - e) &&& g)
def maj (a b c : Nat) : Nat := (a &&& b) ^^^ (a &&& c) ^^^ (b &&& c)
/-- One word more of a schedule. -/
def wnext (l : List Nat) : Nat := (l.getD (l.length - 16) 0 + sg0 (l.getD (l.length - 15) 0) + l.getD (l.length - 7) 0 + sg1 (l.getD (l.length - 2) 0)) % 4294967296
def sched (m : List Nat) : Nat → List Nat
  | 0 => m
  | k + 1 => sched m k ++ [wnext (sched m k)]
/-- The eight words of a round. -/
structure V8 where
  a : Nat
  b : Nat
  c : Nat
  d : Nat
  e : Nat
  f : Nat
  g : Nat
  h : Nat
def V8.l (v : V8) : List Nat := [v.a, v.b, v.c, v.d, v.e, v.f, v.g, v.h]
def tt (v : V8) (k w : Nat) : Nat := v.h + sm1 v.e + chs v.e v.f v.g + k + w
def uu (v : V8) : Nat := sm0 v.a + maj v.a v.b v.c
def rnd (v : V8) (k w : Nat) : V8 := ⟨(tt v k w + uu v) % 4294967296, v.a, v.b, v.c, (v.d + tt v k w) % 4294967296, v.e, v.f, v.g⟩
def rnds (v : V8) : List (Nat × Nat) → V8
  | [] => v
  | p :: l => rnds (rnd v p.1 p.2) l
def V8.lt (v : V8) : Prop := v.a < 4294967296 ∧ v.b < 4294967296 ∧ v.c < 4294967296 ∧ v.d < 4294967296 ∧ v.e < 4294967296 ∧ v.f < 4294967296 ∧ v.g < 4294967296 ∧ v.h < 4294967296
theorem rr_lt (n x : Nat) : rr n x < 4294967296 := Nat.mod_lt _ (by omega)
theorem xor32 {a b : Nat} (ha : a < 4294967296) (hb : b < 4294967296) : a ^^^ b < 4294967296 := Nat.xor_lt_two_pow (n := 32) (by omega) (by omega)
theorem and32 {a b : Nat} (hb : b < 4294967296) : a &&& b < 4294967296 := Nat.and_lt_two_pow (n := 32) _ (by omega)
theorem sg0_lt {x : Nat} (h : x < 4294967296) : sg0 x < 4294967296 := xor32 (xor32 (rr_lt ..) (rr_lt ..)) (by omega)
theorem sg1_lt {x : Nat} (h : x < 4294967296) : sg1 x < 4294967296 := xor32 (xor32 (rr_lt ..) (rr_lt ..)) (by omega)
theorem sm0_lt (x : Nat) : sm0 x < 4294967296 := xor32 (xor32 (rr_lt ..) (rr_lt ..)) (rr_lt ..)
theorem sm1_lt (x : Nat) : sm1 x < 4294967296 := xor32 (xor32 (rr_lt ..) (rr_lt ..)) (rr_lt ..)
theorem chs_lt {e f g : Nat} (hf : f < 4294967296) (hg : g < 4294967296) : chs e f g < 4294967296 := xor32 (and32 hf) (and32 hg)
theorem maj_lt {a b c : Nat} (hb : b < 4294967296) (hc : c < 4294967296) : maj a b c < 4294967296 := xor32 (xor32 (and32 hb) (and32 hc)) (and32 hc)
theorem length_sched (m : List Nat) : ∀ k, (sched m k).length = m.length + k
  | 0 => rfl
  | k + 1 => by simp [sched, length_sched m k]; omega
theorem wnext_lt (l : List Nat) : wnext l < 4294967296 := Nat.mod_lt _ (by omega)
theorem sched_lt (m : List Nat) (h : ∀ x ∈ m, x < 4294967296) : ∀ k, ∀ x ∈ sched m k, x < 4294967296
  | 0 => h
  | k + 1 => by
    intro x hx
    rcases List.mem_append.1 hx with hx | hx
    · exact sched_lt m h k x hx
    · rw [List.mem_singleton.1 hx]; exact wnext_lt _
theorem rnd_lt {v : V8} (h : v.lt) (k w : Nat) : (rnd v k w).lt := by
  obtain ⟨h1, h2, h3, h4, h5, h6, h7, h8⟩ := h
  exact ⟨Nat.mod_lt _ (by omega), h1, h2, h3, Nat.mod_lt _ (by omega), h5, h6, h7⟩
theorem rnds_snoc (p : Nat × Nat) : ∀ (l : List (Nat × Nat)) (v : V8), rnds v (l ++ [p]) = rnd (rnds v l) p.1 p.2
  | [], v => rfl
  | q :: l, v => rnds_snoc p l _
/-- The words of the first n fours of bytes. -/
def four (l : List UInt8) (i : Nat) : Nat := (l.getD (4 * i) 0).toNat * 16777216 + (l.getD (4 * i + 1) 0).toNat * 65536 + (l.getD (4 * i + 2) 0).toNat * 256 + (l.getD (4 * i + 3) 0).toNat
def words (l : List UInt8) (n : Nat) : List Nat := (List.range n).map (four l)
/-- The constants. -/
def keys : List Nat := [1116352408, 1899447441, 3049323471, 3921009573, 961987163, 1508970993, 2453635748, 2870763221, 3624381080, 310598401, 607225278, 1426881987, 1925078388, 2162078206, 2614888103, 3248222580, 3835390401, 4022224774, 264347078, 604807628, 770255983, 1249150122, 1555081692, 1996064986, 2554220882, 2821834349, 2952996808, 3210313671, 3336571891, 3584528711, 113926993, 338241895, 666307205, 773529912, 1294757372, 1396182291, 1695183700, 1986661051, 2177026350, 2456956037, 2730485921, 2820302411, 3259730800, 3345764771, 3516065817, 3600352804, 4094571909, 275423344, 430227734, 506948616, 659060556, 883997877, 958139571, 1322822218, 1537002063, 1747873779, 1955562222, 2024104815, 2227730452, 2361852424, 2428436474, 2756734187, 3204031479, 3329325298]
def h0 : V8 := ⟨1779033703, 3144134277, 1013904242, 2773480762, 1359893119, 2600822924, 528734635, 1541459225⟩
/-- A block. -/
def blk (v : V8) (s : List UInt8) : V8 :=
  let r := rnds v (keys.zip (sched (words s 16) 48))
  ⟨(v.a + r.a) % 4294967296, (v.b + r.b) % 4294967296, (v.c + r.c) % 4294967296, (v.d + r.d) % 4294967296, (v.e + r.e) % 4294967296, (v.f + r.f) % 4294967296, (v.g + r.g) % 4294967296, (v.h + r.h) % 4294967296⟩
theorem length_keys : keys.length = 64 := rfl
theorem keys_lt : ∀ x ∈ keys, x < 4294967296 := by decide
theorem four_lt (l : List UInt8) (i : Nat) : four l i < 4294967296 := by
  have h1 := (l.getD (4 * i) 0).toNat_lt
  have h2 := (l.getD (4 * i + 1) 0).toNat_lt
  have h3 := (l.getD (4 * i + 2) 0).toNat_lt
  have h4 := (l.getD (4 * i + 3) 0).toNat_lt
  unfold four; omega
end Go.Proofs.Ytmjlpdmdpagggaa.Num
