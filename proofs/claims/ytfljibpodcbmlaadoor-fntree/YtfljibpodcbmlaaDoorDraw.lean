/- What laws.big answers; the cursor just made. Old memory stays. Conditions: a code of at most 1048576 bytes. -/
import Derived.Test.YtfljibpodcbmlaaDoorCur4
namespace Go.Proofs.YtfljibpodcbmlaaDoor
open Go.RowKit
open Num
set_option linter.unusedVariables false
theorem new_cur (a : Option Addr) (L : List UInt8) (cap : Nat) (w : World) : CurAt (w.alloc (.cells #[.slice a L.length cap, .int .i64 0, .int .i64 (newF L)] 52)) w.heap.size a L.length cap ⟨0, newF L⟩ := heap_alloc_new w _
theorem new_code {a : Option Addr} {L : List UInt8} {w : World} (o : Obj) (h : CodeAt w w.heap.size a L) : CodeAt (w.alloc o) w.heap.size a L := CodeAt.kept h (grown_alloc (grown_refl _ _) _)
theorem below_new {w w' : World} (o : Obj) (h : (w.alloc o).grownBy w' (some w.heap.size)) : Below w.heap.size w w' :=
  ((Below.refl _ _).alloc (Nat.le_refl _) o).trans (below_grownBy h (by simp) (Nat.le_refl _))
theorem code_below {w w' : World} {a : Option Addr} {L : List UInt8} (h : CodeAt w w.heap.size a L) (hb : Below w.heap.size w w') : CodeAt w' w'.heap.size a L := by
  intro j hj
  obtain ⟨b, off, ha, hne, hc⟩ := h j hj
  have hlt : b < w.heap.size := World.block_lt_of_cell? w _ hc
  exact ⟨b, off, ha, by have := hb.size; omega, by rw [hb.cell (p := ⟨b, off + j, none⟩) hlt]; exact hc⟩
theorem size_mk (l : List UInt8) : (⟨l.toArray⟩ : ByteArray).size = l.length := List.size_toArray
def st0 (L : List UInt8) : St := ⟨0, newF L⟩
set_option maxHeartbeats 400000 in
theorem big_any (a : Option Addr) (len cap : Nat) (w : World) (hm : len ≤ 9223372036854775807) :
    Calls Tryd.prog 10 #[.slice a len cap] w fun e w' => e = .returned (.bool (decide ((1048576 : Int) < (len : Int)))) ∧ w' = w := by
  go_enter Tryd.func10, Tryd.ntmps10
  go_wp2
  go_ret
  exact ⟨rfl, rfl⟩
end Go.Proofs.YtfljibpodcbmlaaDoor
