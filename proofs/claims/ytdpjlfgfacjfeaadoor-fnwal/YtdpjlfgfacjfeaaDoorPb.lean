/- What impl.putBehind answers; old memory stays. -/
import Derived.Test.YtdpjlfgfacjfeaaDoorRows
import Derived.Test.YtdpjlfgfacjfeaaDoorNum
import Derived.Test.YtdpjlfgfacjfeaaDoorLaw
import Derived.WalkKit
import Derived.WalkLawsBesides
import Derived.WalkSpells
namespace Go.Proofs.YtdpjlfgfacjfeaaDoor
open Go.RowKit
open Num
set_option linter.unusedVariables false
set_option maxRecDepth 100000 in
theorem ret_str {a b : ByteArray} (h : a = b) : Ending.returned (.string a) = .returned (.string b) := by rw [h]
set_option maxRecDepth 100000 in
theorem info5 : (Tryd.prog.info? 5).map (·.size) = some 1 := by kernel_rfl
set_option maxRecDepth 100000 in
theorem map_splice (cur cs : List UInt8) (k : Nat) : splice (cur.map u8v) k (cs.map u8v) = (splice cur k cs).map u8v := by
  simp [splice, List.map_take, List.map_drop]
set_option maxRecDepth 100000 in
set_option maxHeartbeats 400000 in
theorem impl_pb (g g2 k n m : Nat) (cur cs : List UInt8) (w : World) (hg : w.heap[g]? = some (.cells (cur.map u8v).toArray 5 (0, 0))) (hn : cur.length = n) (hg2 : w.heap[g2]? = some (.cells (cs.map u8v).toArray 5 (0, 0)))
    (hm : cs.length = m) (hkm : k + m ≤ n) (hm1 : 1 ≤ m) (hnn : n ≤ 1099511627776) (B : Nat) (hB : B ≤ g) :
    Calls Tryd.prog 41 #[.slice (some ⟨g, 0, none⟩) n n, .int .i64 k, .slice (some ⟨g2, 0, none⟩) m m] w fun e w' =>
      e = .returned (.int .i64 ((k : Int) + (m : Int))) ∧ w'.heap[g]? = some (.cells ((splice cur k cs).map u8v).toArray 5 (0, 0)) ∧ Below B w w' := by
  have HG : Hid (w.heap[g]? = some (.cells (cur.map u8v).toArray 5 (0, 0))) := hg
  have HG2 : Hid (w.heap[g2]? = some (.cells (cs.map u8v).toArray 5 (0, 0))) := hg2
  have HN : Hid (cur.length = n) := hn
  have HM : Hid (cs.length = m) := hm
  clear hg hg2 hn hm
  have hlt : (k : Int) < (n : Int) := by omega
  have hcp := run_copy_row (P := Tryd.prog) w 22 22 3 5 g k (n - k) (n - k) ⟨g2, 0, none⟩ m m (cur.map u8v).toArray 5 (cs.map u8v) Tryd.underlying22 info5 HG.out (by
      have := HM.out; have h2 : m ≤ n - k := by omega
      simp only [List.length_map, this]; exact (Nat.min_eq_left h2).symm) (fun j v hj => by
      rw [add_at, cell_of_row w g2 j _ 5 (0, 0) HG2.out]; simpa using hj) (by
      have := HM.out; have := HN.out; simp; omega) (u8v_one cs)
  have hlen : (cs.map u8v).length = m := by simpa using HM.out
  rw [hlen] at hcp
  clear hlen
  go_enter Tryd.func41, Tryd.ntmps41
  go_wp2
  go_ret
  refine ⟨rfl, ?_, below_setRow (Below.refl _ _) hB _⟩
  rw [setRow_heap w g _ _ 5 _ HG.out]
  simp [splice, HM.out]
set_option maxRecDepth 100000 in
theorem info5f : ∃ i, Tryd.prog.info? 5 = some i ∧ i.zero = some (.int .u8 0) ∧ i.size = 1 ∧ i.bytes = 1 :=
  info_parts (by kernel_rfl)
end Go.Proofs.YtdpjlfgfacjfeaaDoor
