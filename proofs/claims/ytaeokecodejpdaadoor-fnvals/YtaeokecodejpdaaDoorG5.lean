/- What the laws' helpers szValS, toVal, toValS, eqVal and eqValS answer; old memory stays. Conditions: rows that a machine can hold. What the laws' helpers toIntS and eqIntS answer; old memory stays. Conditions: rows that a machine can hold. What impl.putBehind answers; old memory stays. Plain facts on numbers written seven bits to a byte, of no Go text. No conditions. -/
import Derived.Test.YtaeokecodejpdaaDoorG2
import Derived.Test.YtaeokecodejpdaaDoorRows
import Derived.Test.YtaeokecodejpdaaDoorNum
import Derived.Test.YtaeokecodejpdaaDoorLaw
import Derived.WalkKit
import Derived.WalkLawsBesides
import Derived.WalkSpells
namespace Go.Proofs.YtaeokecodejpdaaDoor
open Go.RowKit
open Num
set_option linter.unusedVariables false
theorem below_two (w : World) (o o' : Obj) : Below w.heap.size w ((w.alloc o).alloc o') := ((Below.refl _ _).alloc (Nat.le_refl _) _).alloc (by simp) _
theorem info33f : ∃ i, Tryd.prog.info? 39 = some i ∧ i.zero = some (.agg #[.int .i64 0, .int .i64 0]) ∧ i.size = 2 ∧ i.bytes = 16 :=
  info_parts (by kernel_rfl)
end Go.Proofs.YtaeokecodejpdaaDoor
namespace Go.Proofs.YtaeokecodejpdaaDoor
open Go.RowKit
open Num
set_option linter.unusedVariables false
theorem info3f : ∃ i, Tryd.prog.info? 3 = some i ∧ i.zero = some (.int .i64 0) ∧ i.size = 1 ∧ i.bytes = 8 :=
  info_parts (by kernel_rfl)
theorem IAt.snoc {w : World} {b o : Nat} {l : List Int} {v : Int} (h : IAt w b o l) (h1 : (w.cell? ⟨b, o + l.length, none⟩).isSome = true) :
    IAt (w.setCell ⟨b, o + l.length, none⟩ (.int .i64 v)) b o (l ++ [v]) := fun j hj => by
  by_cases hlt : j < l.length
  · rw [World.cell?_setCell_other _ ⟨b, o + l.length, none⟩ ⟨b, o + j, none⟩ _ (fun e => by injection e; omega), h j hlt]
    simp [hlt]
  · have : j = l.length := by simp at hj; omega
    subst this
    rw [World.cell?_setCell_same' _ _ _ h1]
    simp
end Go.Proofs.YtaeokecodejpdaaDoor
namespace Go.Proofs.YtaeokecodejpdaaDoor
open Go.RowKit
open Num
set_option linter.unusedVariables false
theorem ret_str {a b : ByteArray} (h : a = b) : Ending.returned (.string a) = .returned (.string b) := by rw [h]
theorem info5 : (Tryd.prog.info? 5).map (·.size) = some 1 := by kernel_rfl
theorem map_splice (cur cs : List UInt8) (k : Nat) : splice (cur.map u8v) k (cs.map u8v) = (splice cur k cs).map u8v := by
  simp [splice, List.map_take, List.map_drop]
set_option maxHeartbeats 400000 in
theorem impl_pb (g g2 k n m : Nat) (cur cs : List UInt8) (w : World) (hg : w.heap[g]? = some (.cells (cur.map u8v).toArray 5 (0, 0))) (hn : cur.length = n) (hg2 : w.heap[g2]? = some (.cells (cs.map u8v).toArray 5 (0, 0)))
    (hm : cs.length = m) (hkm : k + m ≤ n) (hm1 : 1 ≤ m) (hnn : n ≤ 1099511627776) (B : Nat) (hB : B ≤ g) :
    Calls Tryd.prog 43 #[.slice (some ⟨g, 0, none⟩) n n, .int .i64 k, .slice (some ⟨g2, 0, none⟩) m m] w fun e w' =>
      e = .returned (.int .i64 ((k : Int) + (m : Int))) ∧ w'.heap[g]? = some (.cells ((splice cur k cs).map u8v).toArray 5 (0, 0)) ∧ Below B w w' := by
  have HG : Hid (w.heap[g]? = some (.cells (cur.map u8v).toArray 5 (0, 0))) := hg
  have HG2 : Hid (w.heap[g2]? = some (.cells (cs.map u8v).toArray 5 (0, 0))) := hg2
  have HN : Hid (cur.length = n) := hn
  have HM : Hid (cs.length = m) := hm
  clear hg hg2 hn hm
  have hlt : (k : Int) < (n : Int) := by omega
  have hcp := run_copy_row (P := Tryd.prog) w 22 22 3 5 g k (n - k) (n - k) ⟨g2, 0, none⟩ m m (cur.map u8v).toArray 5 (cs.map u8v) Tryd.underlying22 info5 HG.out (by
      have := HM.out; have h2 : m ≤ n - k := by omega
      simp only [List.length_map, this]; exact (Nat.min_eq_left h2).symm) (fun j v hj => by
      rw [add_at, cell_of_row w g2 j _ 5 (0, 0) HG2.out]; simpa using hj) (by
      have := HM.out; have := HN.out; simp; omega) (u8v_one cs)
  have hlen : (cs.map u8v).length = m := by simpa using HM.out
  rw [hlen] at hcp
  clear hlen
  go_enter Tryd.func43, Tryd.ntmps43
  go_wp2
  go_ret
  refine ⟨rfl, ?_, below_setRow (Below.refl _ _) hB _⟩
  rw [setRow_heap w g _ _ 5 _ HG.out]
  simp [splice, HM.out]
theorem info5f : ∃ i, Tryd.prog.info? 5 = some i ∧ i.zero = some (.int .u8 0) ∧ i.size = 1 ∧ i.bytes = 1 :=
  info_parts (by kernel_rfl)
end Go.Proofs.YtaeokecodejpdaaDoor
namespace Go.Proofs.YtaeokecodejpdaaDoor.Num
/-- A number's bytes, seven bits each, the lowest first; fuel many that go on. -/
def vl : Nat → Int → List UInt8
  | 0, n => [UInt8.ofNat n.toNat]
  | f + 1, n => if n < 128 then [UInt8.ofNat n.toNat] else UInt8.ofNat (128 + n % 128).toNat :: vl f (n / 128)
theorem vl_small (f : Nat) (n : Int) (h : n < 128) : vl f n = [UInt8.ofNat n.toNat] := by
  cases f with
  | zero => rfl
  | succ f => simp [vl, h]
theorem vl_great (f : Nat) (n : Int) (h : 128 ≤ n) : vl (f + 1) n = UInt8.ofNat (128 + n % 128).toNat :: vl f (n / 128) := by
  simp [vl, show ¬ n < 128 from by omega]
theorem vbound (k : Nat) (m : Int) (hk : k ≤ 6) (h : 128 ≤ m) (hb : m < 128 ^ (7 - k)) : k ≤ 5 ∧ m / 128 < 128 ^ (7 - (k + 1)) := by
  have : k = 0 ∨ k = 1 ∨ k = 2 ∨ k = 3 ∨ k = 4 ∨ k = 5 ∨ k = 6 := by omega
  rcases this with h | h | h | h | h | h | h <;> subst h <;> first | omega | (simp at hb ⊢; omega)
def varOk (n : Int) : Bool := decide (0 ≤ n) && decide (n ≤ 562949953421311)
def var (n : Int) : ByteArray := bif varOk n then ⟨(vl 6 n).toArray⟩ else ⟨#[]⟩
theorem var_no (n : Int) (h : n < 0 ∨ 562949953421311 < n) : var n = ⟨#[]⟩ := by
  have : varOk n = false := by
    unfold varOk
    rcases h with h | h
    · simp [show ¬ (0 ≤ n) from by omega]
    · simp [show ¬ (n ≤ 562949953421311) from by omega]
  simp [var, this]
theorem var_yes (n : Int) (h : 0 ≤ n) (h' : n ≤ 562949953421311) : var n = ⟨(vl 6 n).toArray⟩ := by
  simp [var, varOk, h, h']
end Go.Proofs.YtaeokecodejpdaaDoor.Num
