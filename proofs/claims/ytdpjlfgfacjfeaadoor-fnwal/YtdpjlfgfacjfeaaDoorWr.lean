/- What spec.WalRec and impl.WalRec answer: the record of a text; old memory stays. Conditions: texts of at most 2 to the 40 bytes; the table of sums lies as the program lays it. -/
import Derived.Test.YtdpjlfgfacjfeaaDoorWn
import Derived.Test.YtdpjlfgfacjfeaaDoorSp
import Derived.Test.YtdpjlfgfacjfeaaDoorFx
import Derived.Test.YtdpjlfgfacjfeaaDoorIcrc
import Derived.WalkSmall
namespace Go.Proofs.YtdpjlfgfacjfeaaDoor
open Go.RowKit
open Num
set_option linter.unusedVariables false
theorem Tab.below {w w' : World} (h : Tab w) (hb : Below w.heap.size w w') : Tab w' := fun i hi => by
  have := h i hi
  rw [hb.cell (World.block_lt_of_cell? w _ this)]; exact this
set_option maxHeartbeats 800000 in
set_option maxRecDepth 100000 in
theorem spec_wr (s : ByteArray) (w : World) (hs : s.size ≤ 1099511627776) :
    Calls Tryd.prog 16 #[.string s] w fun e w' => e = .returned (.string (rcd s)) ∧ Below w.heap.size w w' := by
  by_cases h : s.size ≤ 60
  · have HW : Hid (rcd s = fx (crcN (pc s) : Nat) 4 ++ pc s) := rcd_yes h
    have kP := fun W => spec_piece s W hs
    have hps := pc_size s
    have hcl := crcN_le (pc s)
    have kC := fun W => spec_crc (pc s) W (by unfold maxLen; omega)
    have kF := fun W => spec_fx (crcN (pc s) : Nat) 4 W (by omega)
    have hfs : (fx (crcN (pc s) : Nat) 4).size = 4 := by have := h4_length s; unfold h4 at this; rw [len_toList] at this; exact this
    generalize rcd s = R at *
    generalize fx (crcN (pc s) : Nat) 4 = F at *
    generalize crcN (pc s) = c at *
    generalize pc s = q at *
    have hno : ¬ 9223372036854775807 < F.size + q.size := by omega
    have h60 : ¬ (60 : Int) < (s.size : Int) := by omega
    go_enter Tryd.func16, Tryd.ntmps16
    go_wp2_with fail
    refine (kP _).mono ?_
    rintro e w1 ⟨rfl, b1⟩
    go_wp2_with fail
    refine (kC _).mono ?_
    rintro e w2 ⟨rfl, rfl⟩
    go_wp2_with fail
    refine (kF _).mono ?_
    rintro e w3 ⟨rfl, b3⟩
    go_wp2
    go_ret
    exact ⟨by rw [HW.out]; rfl, b1.trans (b3.mono b1.size)⟩
  · have HW : Hid (rcd s = ⟨#[]⟩) := rcd_no (by omega)
    have h60 : (60 : Int) < (s.size : Int) := by omega
    generalize rcd s = R at *
    go_enter Tryd.func16, Tryd.ntmps16
    go_wp2
    go_ret
    exact ⟨by rw [HW.out]; rfl, Below.refl _ _⟩
set_option maxHeartbeats 800000 in
set_option maxRecDepth 100000 in
theorem impl_wr (s : ByteArray) (w : World) (hs : s.size ≤ 1099511627776) (hT : Tab w) :
    Calls Tryd.prog 15 #[.string s] w fun e w' => e = .returned (.string (rcd s)) ∧ Below w.heap.size w w' := by
  by_cases h : s.size ≤ 60
  · have HW : Hid (rcd s = fx (crcN (pc s) : Nat) 4 ++ pc s) := rcd_yes h
    have HP : Hid (pc s = var (s.size : Int) ++ s) := rfl
    have HT : Hid (Tab w) := hT
    clear hT
    have kV := fun W => impl_var (s.size : Int) W
    have hvs := var_size (s.size : Int)
    have hps := pc_size s
    have hcl := crcN_le (pc s)
    have kC := fun W hT => impl_crc (pc s) W (by unfold maxLen; omega) hT
    have kF := fun W => impl_fx (crcN (pc s) : Nat) 4 W (by omega)
    have hfs : (fx (crcN (pc s) : Nat) 4).size = 4 := by have := h4_length s; unfold h4 at this; rw [len_toList] at this; exact this
    generalize rcd s = R at *
    generalize fx (crcN (pc s) : Nat) 4 = F at *
    generalize crcN (pc s) = c at *
    generalize hq : pc s = q at *
    generalize var (s.size : Int) = v at *
    have hno : ¬ 9223372036854775807 < F.size + q.size := by omega
    have hno2 : ¬ 9223372036854775807 < v.size + s.size := by omega
    have h60 : ¬ (60 : Int) < (s.size : Int) := by omega
    have HQ : Hid (v ++ s = q) := HP.out.symm
    clear hq HP
    go_enter Tryd.func15, Tryd.ntmps15
    go_wp2_with fail
    refine (kV _).mono ?_
    rintro e w1 ⟨rfl, b1⟩
    have HT1 : Hid (Tab w1) := HT.out.below b1
    go_wp2_with fail
    rw [HQ.out]
    refine (kC _ HT1.out).mono ?_
    rintro e w2 ⟨rfl, b2⟩
    go_wp2_with fail
    refine (kF _).mono ?_
    rintro e w3 ⟨rfl, b3⟩
    go_wp2
    go_ret
    have b4 := b1.trans (b2.mono b1.size)
    exact ⟨by rw [HW.out]; first | rfl | (rw [← HQ.out]; rfl), b4.trans (b3.mono b4.size)⟩
  · have HW : Hid (rcd s = ⟨#[]⟩) := rcd_no (by omega)
    have h60 : (60 : Int) < (s.size : Int) := by omega
    generalize rcd s = R at *
    go_enter Tryd.func15, Tryd.ntmps15
    go_wp2
    go_ret
    exact ⟨by rw [HW.out]; rfl, Below.refl _ _⟩
end Go.Proofs.YtdpjlfgfacjfeaaDoor
