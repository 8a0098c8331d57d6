/- What spec.l1PickInt, l1Num, l1Text and l1New answer, as functions of the code's bytes and the cursor's state. -/
import Derived.Test.YtmjlpdmdpagggaaCur
import Derived.Deep.RegionHeld3
import Derived.Outline
namespace Go.Proofs.Ytmjlpdmdpagggaa
open Go.RowKit
open Num
set_option linter.unusedVariables false
set_option maxHeartbeats 400000 in
theorem pick_any (g gl : Nat) (a : Option Addr) (L : List UInt8) (cap : Nat) (s : St) (zs : List Int) (w : World) (hc : CurAt w g a L.length cap s) (hl : CodeAt w g a L) (hlen : L.length ≤ 1048576)
    (hz : w.heap[gl]? = some (.cells (zs.map (Value.int .i64)).toArray 3 (0, 0))) (hne : gl ≠ g) (h0 : 0 < zs.length) (h1 : zs.length ≤ 256) :
    Calls Try.prog 70 #[.pointer (some ⟨g, 0, none⟩), .slice (some ⟨gl, 0, none⟩) zs.length zs.length] w fun e w' => e = .returned (.int .i64 (zs.getD (belowV L s zs.length).toNat 0)) ∧ CurAt w' g a L.length cap (belowN L s zs.length) ∧ w.grownBy w' (some g) := by
  have HC : Hid (_) := hc
  have HL : Hid (_) := hl
  have HZ : Hid (_) := hz
  clear hc hl hz
  have hb := belowV_bound L s zs.length (by omega)
  obtain ⟨k, hk⟩ : ∃ k : Nat, belowV L s zs.length = (k : Int) := ⟨(belowV L s zs.length).toNat, by omega⟩
  have HK : Hid (_ = _) := hk
  have hkl : (k : Int) < (zs.length : Int) := by omega
  have hkl' : k < zs.length := by omega
  rw [hk]
  clear hk hb
  go_enter Try.func70, Try.ntmps70
  go_wp2_with fail
  refine (below_any g a L cap s _ _ HC.out HL.out hlen).mono ?_
  rintro e w1 ⟨rfl, hc1, hg1⟩
  rw [HK.out]
  have HC1 : Hid (CurAt w1 g a L.length cap (belowN L s zs.length)) := hc1
  have hcell : w1.cell? ⟨gl, k, none⟩ = some (.int .i64 (zs[k])) := by
    refine hg1.cell ?_ (by simpa using hne)
    rw [cell_of_row w gl k _ 3 (0, 0) HZ.out]
    simp [hkl']
  clear hc1
  go_wp2
  go_ret
  exact ⟨ret_i64 (by simp [hkl']), HC1.out, hg1⟩
end Go.Proofs.Ytmjlpdmdpagggaa
