/- What spec.l6Piece answers; old memory stays. Conditions: texts of at most 2 to the 40 bytes. -/
import Derived.Test.YtdpjlfgfacjfeaaDoorBe
import Derived.Test.YtdpjlfgfacjfeaaDoorVar
import Derived.Test.YtdpjlfgfacjfeaaDoorHd
namespace Go.Proofs.YtdpjlfgfacjfeaaDoor
open Go.RowKit
open Num
set_option linter.unusedVariables false
set_option maxHeartbeats 400000 in
set_option maxRecDepth 100000 in
theorem spec_piece (s : ByteArray) (w : World) (hs : s.size ≤ 1099511627776) :
    Calls Tryd.prog 29 #[.string s] w fun e w' => e = .returned (.string (pc s)) ∧ Below w.heap.size w w' := by
  have hv := var_size (s.size : Int)
  have kV := fun W => spec_var (s.size : Int) W
  have HP : Hid (pc s = var (s.size : Int) ++ s) := rfl
  generalize var (s.size : Int) = q at *
  have hno : ¬ 9223372036854775807 < q.size + s.size := by omega
  go_enter Tryd.func29, Tryd.ntmps29
  go_wp2_with fail
  refine (kV _).mono ?_
  rintro e w1 ⟨rfl, b1⟩
  go_wp2
  go_ret
  exact ⟨by rw [HP.out]; rfl, b1⟩
end Go.Proofs.YtdpjlfgfacjfeaaDoor
