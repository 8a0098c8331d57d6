/- Plain facts on numbers and byte lists, of no Go text: the value of bytes read highest first. No conditions. Laws of the walk that the guide's library lacks in this form: a text made of a row of bytes that the call owns; putting them at one operation. Over any program. -/
import Derived.WalkKit
import Derived.Laws.IdiomStrings
import Derived.Laws.CopyOwn
namespace Go.Proofs.YtajfmjgaaapjeaaGreatDoor.Num
/-- The number whose bytes, highest first, are l. -/
def be (l : List UInt8) : Int := l.foldl (fun n c => n * 256 + (c.toNat : Int)) 0
theorem be_snoc (l : List UInt8) (c : UInt8) : be (l ++ [c]) = be l * 256 + (c.toNat : Int) := by
  simp [be, List.foldl_append]
theorem take_snoc (s : ByteArray) (k : Nat) (h : k < s.size) : s.data.toList.take (k + 1) = s.data.toList.take k ++ [s[k]] := by
  rw [List.take_succ_eq_append_getElem (by simpa using h)]; rfl
theorem be_step (s : ByteArray) (k : Nat) (h : k < s.size) : be (s.data.toList.take (k + 1)) = be (s.data.toList.take k) * 256 + (s[k].toNat : Int) := by
  rw [take_snoc s k h, be_snoc]
theorem be_nonneg (l : List UInt8) : 0 ≤ be l ∧ be l < 256 ^ l.length := by
  unfold be
  suffices h : ∀ (l : List UInt8) (a : Int) (k : Nat), 0 ≤ a → a < 256 ^ k → 0 ≤ l.foldl (fun n c => n * 256 + (c.toNat : Int)) a ∧ l.foldl (fun n c => n * 256 + (c.toNat : Int)) a < 256 ^ (k + l.length) by
    have := h l 0 0 (by omega) (by decide)
    simpa using this
  intro l
  induction l with
  | nil => intro a k h0 h1; exact ⟨h0, h1⟩
  | cons c l ih =>
    intro a k h0 h1
    have hc : (c.toNat : Int) < 256 := by have := c.toNat_lt; omega
    have hp : (256 : Int) ^ (k + 1) = 256 ^ k * 256 := Int.pow_succ ..
    have := ih (a * 256 + (c.toNat : Int)) (k + 1) (by omega) (by omega)
    rw [List.length_cons, show k + (l.length + 1) = k + 1 + l.length from by omega]
    exact this
theorem pow_le7 (k : Nat) (h : k ≤ 7) : (256 : Int) ^ k ≤ 72057594037927936 := by
  have : k = 0 ∨ k = 1 ∨ k = 2 ∨ k = 3 ∨ k = 4 ∨ k = 5 ∨ k = 6 ∨ k = 7 := by omega
  rcases this with h | h | h | h | h | h | h | h <;> subst h <;> decide
theorem be_bound (s : ByteArray) (k : Nat) (h : k ≤ 6) : 0 ≤ be (s.data.toList.take k) ∧ be (s.data.toList.take k) ≤ 281474976710656 := by
  have := be_nonneg (s.data.toList.take k)
  have hl : (s.data.toList.take k).length ≤ 6 := by have := List.length_take_le k s.data.toList; omega
  have : (256 : Int) ^ (s.data.toList.take k).length ≤ 281474976710656 := by
    revert hl; generalize (s.data.toList.take k).length = m; intro hl
    have : m = 0 ∨ m = 1 ∨ m = 2 ∨ m = 3 ∨ m = 4 ∨ m = 5 ∨ m = 6 := by omega
    rcases this with h | h | h | h | h | h | h <;> subst h <;> decide
  omega
/-- Is there a number of that width at the head of s? -/
def rfOk (s : ByteArray) (width : Int) : Bool := decide (1 ≤ width) && decide (width ≤ 7) && decide (width ≤ (s.size : Int))
def rfVal (s : ByteArray) (width : Int) : Int := bif rfOk s width then be (s.data.toList.take width.toNat) else 0
theorem rf_yes (s : ByteArray) (width : Int) (h1 : 1 ≤ width) (h2 : width ≤ 7) (h3 : width ≤ (s.size : Int)) : rfOk s width = true := by
  simp [rfOk, h1, h2, h3]
theorem rf_no (s : ByteArray) (width : Int) (h : width < 1 ∨ 7 < width ∨ (s.size : Int) < width) : rfOk s width = false ∧ rfVal s width = 0 := by
  have : rfOk s width = false := by
    unfold rfOk
    rcases h with h | h | h
    · simp [show ¬ (1 ≤ width) from by omega]
    · simp [show ¬ (width ≤ 7) from by omega]
    · simp [show ¬ (width ≤ (s.size : Int)) from by omega]
  exact ⟨this, by simp [rfVal, this]⟩
/-- The lowest k bytes of n, the highest first. -/
def lo (n : Int) : Nat → List UInt8
  | 0 => []
  | k + 1 => UInt8.ofNat ((n / 256 ^ k) % 256).toNat :: lo n k
theorem length_lo (n : Int) : ∀ k, (lo n k).length = k
  | 0 => rfl
  | k + 1 => by simp [lo, length_lo n k]
theorem div_pow_succ (n : Int) (k : Nat) : n / 256 ^ k / 256 = n / 256 ^ (k + 1) := by
  rw [Int.ediv_ediv_of_nonneg (Int.pow_nonneg (by omega)), Int.pow_succ]
theorem div_pow_nonneg (n : Int) (k : Nat) (h : 0 ≤ n) : 0 ≤ n / 256 ^ k := Int.ediv_nonneg h (Int.pow_nonneg (by omega))
theorem div_pow_le (n : Int) (k : Nat) (h : 0 ≤ n) : n / 256 ^ k ≤ n := Int.ediv_le_self _ h
theorem div_pow_pos (n : Int) (k : Nat) : 0 < n / 256 ^ k ↔ 256 ^ k ≤ n := by
  have hp : (0 : Int) < 256 ^ k := Int.pow_pos (by omega)
  rw [Int.lt_iff_add_one_le, Int.le_ediv_iff_mul_le hp]; simp
/-- Does n fit into width bytes? -/
def fxOk (n width : Int) : Bool := decide (1 ≤ width) && decide (width ≤ 7) && decide (0 ≤ n) && decide (n / 256 ^ width.toNat ≤ 0)
def fx (n width : Int) : ByteArray := bif fxOk n width then ⟨(lo n width.toNat).toArray⟩ else ⟨#[]⟩
theorem fx_no (n width : Int) (h : width < 1 ∨ 7 < width ∨ n < 0 ∨ 0 < n / 256 ^ width.toNat) : fx n width = ⟨#[]⟩ := by
  have : fxOk n width = false := by
    unfold fxOk
    rcases h with h | h | h | h
    · simp [show ¬ (1 ≤ width) from by omega]
    · simp [show ¬ (width ≤ 7) from by omega]
    · simp [show ¬ (0 ≤ n) from by omega]
    · simp [show ¬ (n / 256 ^ width.toNat ≤ 0) from by omega]
  simp [fx, this]
theorem fx_yes (n width : Int) (h1 : 1 ≤ width) (h2 : width ≤ 7) (h3 : 0 ≤ n) (h4 : n / 256 ^ width.toNat ≤ 0) : fx n width = ⟨(lo n width.toNat).toArray⟩ := by
  simp [fx, fxOk, h1, h2, h3, h4]
theorem size_mk (l : List UInt8) : (ByteArray.mk l.toArray).size = l.length := by simp [ByteArray.size]
theorem cons_mk (c : UInt8) (l : List UInt8) : (ByteArray.mk #[c]) ++ (ByteArray.mk l.toArray) = ByteArray.mk (c :: l).toArray := by
  apply ByteArray.ext; simp
theorem two_pow8 (m : Nat) : (2 : Int) ^ (8 * m) = 256 ^ m := by
  rw [Int.pow_mul]; rfl
/-- What a row of m bytes holds when the first k of F have been laid. -/
def rowPart (F : List UInt8) (k m : Nat) : List UInt8 := F.take k ++ List.replicate (m - k) 0
theorem rowPart_zero (F : List UInt8) (m : Nat) : rowPart F 0 m = List.replicate m 0 := by simp [rowPart]
theorem rowPart_all (F : List UInt8) (m : Nat) (h : F.length = m) : rowPart F m m = F := by simp [rowPart, ← h]
theorem length_rowPart (F : List UInt8) (k m : Nat) (h : F.length = m) (hk : k ≤ m) : (rowPart F k m).length = m := by simp [rowPart]; omega
theorem lo_at (n : Int) : ∀ (m k : Nat) (_ : k < m), (lo n m)[k]? = some (UInt8.ofNat ((n / 256 ^ (m - 1 - k)) % 256).toNat)
  | 0, k, h => by omega
  | m + 1, 0, h => by simp [lo]
  | m + 1, k + 1, h => by
    have := lo_at n m k (by omega)
    simp only [lo, List.getElem?_cons_succ, this]
    rw [show m + 1 - 1 - (k + 1) = m - 1 - k from by omega]
end Go.Proofs.YtajfmjgaaapjeaaGreatDoor.Num
namespace Go.Proofs.YtajfmjgaaapjeaaGreatDoor
open Go.RowKit
theorem add_at (g j : Nat) : (⟨g, 0, none⟩ : Addr).add j = ⟨g, j, none⟩ := by
  unfold Addr.add
  by_cases h : j = 0 <;> simp [h]
/-- A byte as a value of a cell. -/
def u8v (c : UInt8) : Value := .int .u8 (c.toNat : Int)
theorem u8v_one (l : List UInt8) : ∀ v ∈ l.map u8v, v.oneCell' = true := by
  intro v hv
  obtain ⟨c, _, rfl⟩ := List.mem_map.1 hv
  rfl
theorem run_str_zero {P : Program} (w : World) (src dst e : TypeId) (hs : P.underlying src = some (.slice e)) (he : P.underlying e = some (.int .u8)) (hd : P.underlying dst = some .string) (p : Option Addr) (c : Nat) :
    (convert src dst (.slice p 0 c)).run P w = .ok (.string ⟨#[]⟩) w := by
  rw [run_convert_bytes_string w src dst e _ 0 c hs he hd]
  cases p <;> simp [Conv.bytesToString, loadCells]
  all_goals rfl
/-- 'string(b)' of bytes that lie in a row. -/
theorem run_str_row {P : Program} (w : World) (src dst e : TypeId) (hs : P.underlying src = some (.slice e)) (he : P.underlying e = some (.int .u8)) (hd : P.underlying dst = some .string)
    (g cap : Nat) (l r : List UInt8) (t : TypeId) (fr : Nat × Nat) (hg : w.heap[g]? = some (.cells ((l ++ r).map u8v).toArray t fr)) :
    (convert src dst (.slice (some ⟨g, 0, none⟩) l.length cap)).run P w = .ok (.string ⟨l.toArray⟩) w := by
  refine run_convert_bytes_back w src dst e _ cap l hs he hd fun j hj => ?_
  rw [add_at]
  rw [cell_of_row w g j _ t fr hg]
  simp [u8v, List.getElem?_append, hj]
/-- 'string(b)' of bytes that the call owns. -/
theorem run_str_own {P : Program} (w : World) (src dst e : TypeId) (hs : P.underlying src = some (.slice e)) (he : P.underlying e = some (.int .u8)) (hd : P.underlying dst = some .string)
    (base : Nat) (v : Value) (n : Nat) (l : List UInt8) (hown : w.ownsRow base e 1 v n (l.map u8v)) :
    (convert src dst v).run P w = .ok (.string ⟨l.toArray⟩) w := by
  have hl : l.length = n := by simpa using hown.1
  have h0 := hown
  rcases hown.2 with ⟨rfl, hn⟩ | ⟨g, cap, cur, rfl, _, hg, _, _, _, ht⟩
  · have : l = [] := List.eq_nil_of_length_eq_zero (by omega)
    subst this
    exact run_str_zero w src dst e hs he hd _ _
  · subst hl
    refine run_convert_bytes_back w src dst e _ cap l hs he hd fun j hj => ?_
    rw [add_at]
    rw [h0.cellAt j (by simpa using hj)]
    simp [u8v, hj]
/-- 'string([]byte{c})': one byte, just laid. -/
theorem run_str_one {P : Program} (w : World) (src dst e : TypeId) (hs : P.underlying src = some (.slice e)) (he : P.underlying e = some (.int .u8)) (hd : P.underlying dst = some .string) (x : Int) (h0 : 0 ≤ x) (h1 : x < 256) :
    (convert src dst (.slice (some ⟨w.heap.size, 0, none⟩) 1 1)).run P (w.alloc (.cells #[.int .u8 x] e)) = .ok (.string ⟨#[UInt8.ofNat x.toNat]⟩) (w.alloc (.cells #[.int .u8 x] e)) := by
  have h := run_str_row (P := P) (w.alloc (.cells #[.int .u8 x] e)) src dst e hs he hd w.heap.size 1 [UInt8.ofNat x.toNat] [] e (0, 0) (by
    have hx : ((UInt8.ofNat x.toNat).toNat : Int) = x := by
      have : (UInt8.ofNat x.toNat).toNat = x.toNat := by simp; omega
      rw [this]; omega
    rw [heap_alloc_new]
    simp [u8v]
    omega)
  simpa using h
theorem splice_rowPart (F cs : List UInt8) (k m : Nat) (h : F.length = m) (hk : k + cs.length ≤ m) (hc : (F.drop k).take cs.length = cs) : splice (Num.rowPart F k m) k cs = Num.rowPart F (k + cs.length) m := by
  have h1 : (F.take k).length = k := by simp; omega
  unfold splice Num.rowPart
  rw [List.take_append_of_le_length (by omega), List.take_of_length_le (by omega), List.drop_append, h1]
  rw [List.drop_eq_nil_of_le (by omega), List.drop_replicate, List.nil_append, ← List.append_assoc, List.take_add, hc]
  rw [show m - k - (k + cs.length - k) = m - (k + cs.length) from by omega]
theorem made_zero (m : Nat) : (madeCells (Value.int IntKind.u8 0).cells (m * 1)).toList = (List.replicate m (0 : UInt8)).map u8v := by
  have : (Value.int IntKind.u8 0).cells = #[.int .u8 0] := rfl
  rw [this, toList_madeCells_one, Nat.mul_one, List.map_replicate]; rfl
/-- A row that is owned whole. -/
theorem own_whole {w : World} {base : Nat} {g m : Nat} {xs : List Value} (h : w.ownsRow base 5 1 (.slice (some ⟨g, 0, none⟩) m m) m xs) : w.heap[g]? = some (.cells xs.toArray 5 (0, 0)) := by
  rcases h.2 with ⟨h', _⟩ | ⟨g', cap', cur, h', hb, hg, hnc, hcm, hcs, htake⟩
  · simp at h'
  · simp only [Value.slice.injEq, Option.some.injEq, Addr.mk.injEq, and_true, true_and] at h'
    obtain ⟨rfl, rfl⟩ := h'
    rw [hg, ← htake, List.take_of_length_le (by simp; omega)]
theorem below_of_grown {w w' : World} (h : w.grownBy w' none) : Below w.heap.size w w' :=
  (Below.refl _ _).grown h (Nat.le_refl _) (fun _ h => by cases h)
/-- One byte just laid as a row of its own. -/
theorem one_row (w : World) (x : Int) (h0 : 0 ≤ x) (h1 : x < 256) : (w.alloc (.cells #[.int .u8 x] 5)).heap[w.heap.size]? = some (.cells ([UInt8.ofNat x.toNat].map u8v).toArray 5 (0, 0)) := by
  have hx : ((UInt8.ofNat x.toNat).toNat : Int) = x := by
    have : (UInt8.ofNat x.toNat).toNat = x.toNat := by simp; omega
    rw [this]; omega
  rw [heap_alloc_new]; simp [u8v]; omega
theorem one_cell (w : World) (x : Int) (h0 : 0 ≤ x) (h1 : x < 256) : ∀ j u, ([UInt8.ofNat x.toNat].map u8v)[j]? = some u → (w.alloc (.cells #[.int .u8 x] 5)).cell? ((⟨w.heap.size, 0, none⟩ : Addr).add j) = some u := by
  intro j u hj
  rw [add_at, cell_of_row _ _ j _ 5 (0, 0) (one_row w x h0 h1)]
  simpa using hj
theorem own_snoc {w : World} {b n : Nat} {v : Value} {cs : List UInt8} {c : UInt8} (h : w.ownsRow b 5 1 v n (cs.map u8v ++ [u8v c])) : w.ownsRow b 5 1 v n ((cs ++ [c]).map u8v) := by
  simpa using h
/-- Bytes laid behind those that a row begins with. -/
theorem splice_fill (cs c : List UInt8) (k m : Nat) (h : cs.length = k) (hk : k + c.length ≤ m) : splice (cs ++ List.replicate (m - k) 0) k c = (cs ++ c) ++ List.replicate (m - (k + c.length)) 0 := by
  unfold splice
  rw [List.take_append_of_le_length (by omega), List.take_of_length_le (by omega), List.drop_append, h]
  rw [List.drop_eq_nil_of_le (by omega), List.drop_replicate, List.nil_append, ← List.append_assoc]
  rw [show m - k - (k + c.length - k) = m - (k + c.length) from by omega]
theorem own_empty (w : World) : (w.alloc (.cells #[] 5)).ownsRow w.heap.size 5 1 (.slice (some ⟨w.heap.size, 0, none⟩) 0 0) 0 (([] : List UInt8).map u8v) :=
  World.ownsRow_made w #[] 0 (Nat.le_refl _) (by decide) rfl
#print axioms run_str_own
#print axioms run_str_one
end Go.Proofs.YtajfmjgaaapjeaaGreatDoor
