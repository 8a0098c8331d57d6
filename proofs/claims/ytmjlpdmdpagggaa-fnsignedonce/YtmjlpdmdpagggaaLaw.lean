/- Laws of the walk that the guide's library lacks in this form: a text made of a row of bytes that the call owns; putting them at one operation. Over any program. -/
import Derived.Test.YtmjlpdmdpagggaaNum
import Derived.WalkKit
import Derived.Laws.IdiomStrings
import Derived.Laws.CopyOwn
namespace Go.Proofs.Ytmjlpdmdpagggaa
open Go.RowKit
theorem add_at (g j : Nat) : (⟨g, 0, none⟩ : Addr).add j = ⟨g, j, none⟩ := by
  unfold Addr.add
  by_cases h : j = 0 <;> simp [h]
/-- A byte as a value of a cell. -/
def u8v (c : UInt8) : Value := .int .u8 (c.toNat : Int)
theorem u8v_one (l : List UInt8) : ∀ v ∈ l.map u8v, v.oneCell' = true := by
  intro v hv
  obtain ⟨c, _, rfl⟩ := List.mem_map.1 hv
  rfl
theorem run_str_zero {P : Program} (w : World) (src dst e : TypeId) (hs : P.underlying src = some (.slice e)) (he : P.underlying e = some (.int .u8)) (hd : P.underlying dst = some .string) (p : Option Addr) (c : Nat) :
    (convert src dst (.slice p 0 c)).run P w = .ok (.string ⟨#[]⟩) w := by
  rw [run_convert_bytes_string w src dst e _ 0 c hs he hd]
  cases p <;> simp [Conv.bytesToString, loadCells]
  all_goals rfl
/-- 'string(b)' of bytes that lie in a row. -/
theorem run_str_row {P : Program} (w : World) (src dst e : TypeId) (hs : P.underlying src = some (.slice e)) (he : P.underlying e = some (.int .u8)) (hd : P.underlying dst = some .string)
    (g cap : Nat) (l r : List UInt8) (t : TypeId) (fr : Nat × Nat) (hg : w.heap[g]? = some (.cells ((l ++ r).map u8v).toArray t fr)) :
    (convert src dst (.slice (some ⟨g, 0, none⟩) l.length cap)).run P w = .ok (.string ⟨l.toArray⟩) w := by
  refine run_convert_bytes_back w src dst e _ cap l hs he hd fun j hj => ?_
  rw [add_at]
  rw [cell_of_row w g j _ t fr hg]
  simp [u8v, List.getElem?_append, hj]
/-- 'string(b)' of bytes that the call owns. -/
theorem run_str_own {P : Program} (w : World) (src dst e : TypeId) (hs : P.underlying src = some (.slice e)) (he : P.underlying e = some (.int .u8)) (hd : P.underlying dst = some .string)
    (base : Nat) (v : Value) (n : Nat) (l : List UInt8) (hown : w.ownsRow base e 1 v n (l.map u8v)) :
    (convert src dst v).run P w = .ok (.string ⟨l.toArray⟩) w := by
  have hl : l.length = n := by simpa using hown.1
  have h0 := hown
  rcases hown.2 with ⟨rfl, hn⟩ | ⟨g, cap, cur, rfl, _, hg, _, _, _, ht⟩
  · have : l = [] := List.eq_nil_of_length_eq_zero (by omega)
    subst this
    exact run_str_zero w src dst e hs he hd _ _
  · subst hl
    refine run_convert_bytes_back w src dst e _ cap l hs he hd fun j hj => ?_
    rw [add_at]
    rw [h0.cellAt j (by simpa using hj)]
    simp [u8v, hj]
/-- 'string([]byte{c})': one byte, just laid. -/
theorem run_str_one {P : Program} (w : World) (src dst e : TypeId) (hs : P.underlying src = some (.slice e)) (he : P.underlying e = some (.int .u8)) (hd : P.underlying dst = some .string) (x : Int) (h0 : 0 ≤ x) (h1 : x < 256) :
    (convert src dst (.slice (some ⟨w.heap.size, 0, none⟩) 1 1)).run P (w.alloc (.cells #[.int .u8 x] e)) = .ok (.string ⟨#[UInt8.ofNat x.toNat]⟩) (w.alloc (.cells #[.int .u8 x] e)) := by
  have h := run_str_row (P := P) (w.alloc (.cells #[.int .u8 x] e)) src dst e hs he hd w.heap.size 1 [UInt8.ofNat x.toNat] [] e (0, 0) (by
    have hx : ((UInt8.ofNat x.toNat).toNat : Int) = x := by
      have : (UInt8.ofNat x.toNat).toNat = x.toNat := by simp; omega
      rw [this]; omega
    rw [heap_alloc_new]
    simp [u8v]
    omega)
  simpa using h
theorem splice_rowPart (F cs : List UInt8) (k m : Nat) (h : F.length = m) (hk : k + cs.length ≤ m) (hc : (F.drop k).take cs.length = cs) : splice (Num.rowPart F k m) k cs = Num.rowPart F (k + cs.length) m := by
  have h1 : (F.take k).length = k := by simp; omega
  unfold splice Num.rowPart
  rw [List.take_append_of_le_length (by omega), List.take_of_length_le (by omega), List.drop_append, h1]
  rw [List.drop_eq_nil_of_le (by omega), List.drop_replicate, List.nil_append, ← List.append_assoc, List.take_add, hc]
  rw [show m - k - (k + cs.length - k) = m - (k + cs.length) from by omega]
theorem made_zero (m : Nat) : (madeCells (Value.int IntKind.u8 0).cells (m * 1)).toList = (List.replicate m (0 : UInt8)).map u8v := by
  have : (Value.int IntKind.u8 0).cells = #[.int .u8 0] := rfl
  rw [this, toList_madeCells_one, Nat.mul_one, List.map_replicate]; rfl
/-- A row that is owned whole. -/
theorem own_whole {w : World} {base : Nat} {g m : Nat} {xs : List Value} (h : w.ownsRow base 5 1 (.slice (some ⟨g, 0, none⟩) m m) m xs) : w.heap[g]? = some (.cells xs.toArray 5 (0, 0)) := by
  rcases h.2 with ⟨h', _⟩ | ⟨g', cap', cur, h', hb, hg, hnc, hcm, hcs, htake⟩
  · simp at h'
  · simp only [Value.slice.injEq, Option.some.injEq, Addr.mk.injEq, and_true, true_and] at h'
    obtain ⟨rfl, rfl⟩ := h'
    rw [hg, ← htake, List.take_of_length_le (by simp; omega)]
theorem below_of_grown {w w' : World} (h : w.grownBy w' none) : Below w.heap.size w w' :=
  (Below.refl _ _).grown h (Nat.le_refl _) (fun _ h => by cases h)
/-- One byte just laid as a row of its own. -/
theorem one_row (w : World) (x : Int) (h0 : 0 ≤ x) (h1 : x < 256) : (w.alloc (.cells #[.int .u8 x] 5)).heap[w.heap.size]? = some (.cells ([UInt8.ofNat x.toNat].map u8v).toArray 5 (0, 0)) := by
  have hx : ((UInt8.ofNat x.toNat).toNat : Int) = x := by
    have : (UInt8.ofNat x.toNat).toNat = x.toNat := by simp; omega
    rw [this]; omega
  rw [heap_alloc_new]; simp [u8v]; omega
theorem one_cell (w : World) (x : Int) (h0 : 0 ≤ x) (h1 : x < 256) : ∀ j u, ([UInt8.ofNat x.toNat].map u8v)[j]? = some u → (w.alloc (.cells #[.int .u8 x] 5)).cell? ((⟨w.heap.size, 0, none⟩ : Addr).add j) = some u := by
  intro j u hj
  rw [add_at, cell_of_row _ _ j _ 5 (0, 0) (one_row w x h0 h1)]
  simpa using hj
theorem own_snoc {w : World} {b n : Nat} {v : Value} {cs : List UInt8} {c : UInt8} (h : w.ownsRow b 5 1 v n (cs.map u8v ++ [u8v c])) : w.ownsRow b 5 1 v n ((cs ++ [c]).map u8v) := by
  simpa using h
/-- Bytes laid behind those that a row begins with. -/
theorem splice_fill (cs c : List UInt8) (k m : Nat) (h : cs.length = k) (hk : k + c.length ≤ m) : splice (cs ++ List.replicate (m - k) 0) k c = (cs ++ c) ++ List.replicate (m - (k + c.length)) 0 := by
  unfold splice
  rw [List.take_append_of_le_length (by omega), List.take_of_length_le (by omega), List.drop_append, h]
  rw [List.drop_eq_nil_of_le (by omega), List.drop_replicate, List.nil_append, ← List.append_assoc]
  rw [show m - k - (k + c.length - k) = m - (k + c.length) from by omega]
theorem own_empty (w : World) : (w.alloc (.cells #[] 5)).ownsRow w.heap.size 5 1 (.slice (some ⟨w.heap.size, 0, none⟩) 0 0) 0 (([] : List UInt8).map u8v) :=
  World.ownsRow_made w #[] 0 (Nat.le_refl _) (by decide) rfl
#print axioms run_str_own
#print axioms run_str_one
end Go.Proofs.Ytmjlpdmdpagggaa
