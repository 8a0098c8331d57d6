/- What spec.WalAdd and impl.WalAdd answer; old memory stays. Conditions: logs and texts of at most 2 to the 40 bytes; the table of sums lies as the program lays it. -/
import Derived.Test.YtdpjlfgfacjfeaaDoorWr
import Derived.Test.YtdpjlfgfacjfeaaDoorIt
namespace Go.Proofs.YtdpjlfgfacjfeaaDoor
open Go.RowKit
open Num
set_option linter.unusedVariables false
/-- A log with one record more, where that may be. -/
def ad (l s : ByteArray) : ByteArray × Bool := if (rcd s).size = 0 ∨ 2000 < l.size + (rcd s).size then (l, false) else (l ++ rcd s, true)
theorem ad_yes {l s : ByteArray} (h : s.size ≤ 60) (h1 : l.size + 5 + s.size ≤ 2000) : ad l s = (l ++ rcd s, true) := by
  unfold ad
  rw [if_neg (by rw [rcd_size h]; omega)]
theorem ad_size (l s : ByteArray) : (ad l s).1.size ≤ l.size + 65 := by
  have := rcd_le s
  unfold ad
  split
  · show l.size ≤ _; omega
  · show (l ++ rcd s).size ≤ _; rw [ByteArray.size_append]; omega
set_option maxHeartbeats 800000 in
set_option maxRecDepth 100000 in
theorem spec_add (l s : ByteArray) (w : World) (hl : l.size ≤ 1099511627776) (hs : s.size ≤ 1099511627776) :
    Calls Tryd.prog 48 #[.string l, .string s] w fun e w' => e = .returned (.tuple #[.string (ad l s).1, .bool (ad l s).2]) ∧ Below w.heap.size w w' := by
  have kW := fun W => spec_wr s W hs
  have hle := rcd_le s
  have HA : Hid (ad l s = if (rcd s).size = 0 ∨ 2000 < l.size + (rcd s).size then (l, false) else (l ++ rcd s, true)) := rfl
  generalize ad l s = A at *
  generalize rcd s = R at *
  by_cases hz : R.size = 0
  · have HA : Hid (A = (l, false)) := by have h := HA.out; rw [if_pos (.inl hz)] at h; exact h
    obtain rfl := nul_of hz
    clear hz hle
    go_enter Tryd.func48, Tryd.ntmps48
    go_wp2_with fail
    refine (kW _).mono ?_
    rintro e w1 ⟨rfl, b1⟩
    go_wp2
    go_ret2
    exact ⟨by rw [HA.out]; rfl, b1⟩
  · have he : (R.toList == ([] : List UInt8)) = false := by
      rw [beq_eq_false_iff_ne]
      intro h
      rw [Go.ByteArray.toList_eq] at h
      exact hz (by rw [← len_toList, h]; rfl)
    have hq0 : ¬ R = ⟨#[]⟩ := fun h => hz (by rw [h]; rfl)
    by_cases hb : 2000 < l.size + R.size
    · have HA : Hid (A = (l, false)) := by have h := HA.out; rw [if_pos (.inr hb)] at h; exact h
      have hbz : (2000 : Int) < (l.size : Int) + (R.size : Int) := by omega
      go_enter Tryd.func48, Tryd.ntmps48
      go_wp2_with fail
      refine (kW _).mono ?_
      rintro e w1 ⟨rfl, b1⟩
      go_wp2
      go_ret2
      exact ⟨by rw [HA.out]; rfl, b1⟩
    · have HA : Hid (A = (l ++ R, true)) := by have h := HA.out; rw [if_neg (fun h => h.elim hz hb)] at h; exact h
      have hbz : ¬ (2000 : Int) < (l.size : Int) + (R.size : Int) := by omega
      have hno : ¬ 9223372036854775807 < l.size + R.size := by omega
      go_enter Tryd.func48, Tryd.ntmps48
      go_wp2_with fail
      refine (kW _).mono ?_
      rintro e w1 ⟨rfl, b1⟩
      go_wp2
      go_ret2
      exact ⟨by rw [HA.out]; rfl, b1⟩
set_option maxHeartbeats 800000 in
set_option maxRecDepth 100000 in
theorem impl_add (l s : ByteArray) (w : World) (hl : l.size ≤ 1099511627776) (hs : s.size ≤ 1099511627776) (hT : Tab w) :
    Calls Tryd.prog 9 #[.string l, .string s] w fun e w' => e = .returned (.tuple #[.string (ad l s).1, .bool (ad l s).2]) ∧ Below w.heap.size w w' := by
  have kW := fun W hT => impl_wr s W hs hT
  have kC := fun W => clone_any l W (by omega)
  have HT : Hid (Tab w) := hT
  clear hT
  have hle := rcd_le s
  have HA : Hid (ad l s = if (rcd s).size = 0 ∨ 2000 < l.size + (rcd s).size then (l, false) else (l ++ rcd s, true)) := rfl
  generalize ad l s = A at *
  generalize rcd s = R at *
  by_cases hz : R.size = 0
  · have HA : Hid (A = (l, false)) := by have h := HA.out; rw [if_pos (.inl hz)] at h; exact h
    obtain rfl := nul_of hz
    clear hz hle
    go_enter Tryd.func9, Tryd.ntmps9
    go_wp2_with fail
    refine (kW _ HT.out).mono ?_
    rintro e w1 ⟨rfl, b1⟩
    go_wp2_with fail
    refine (kC _).mono ?_
    rintro e w2 ⟨rfl, b2⟩
    go_wp2
    go_ret2
    exact ⟨by rw [HA.out]; rfl, b1.trans (b2.mono b1.size)⟩
  · have he : (R.toList == ([] : List UInt8)) = false := by
      rw [beq_eq_false_iff_ne]
      intro h
      rw [Go.ByteArray.toList_eq] at h
      exact hz (by rw [← len_toList, h]; rfl)
    have hq0 : ¬ R = ⟨#[]⟩ := fun h => hz (by rw [h]; rfl)
    by_cases hb : 2000 < l.size + R.size
    · have HA : Hid (A = (l, false)) := by have h := HA.out; rw [if_pos (.inr hb)] at h; exact h
      have hbz : (2000 : Int) < (l.size : Int) + (R.size : Int) := by omega
      go_enter Tryd.func9, Tryd.ntmps9
      go_wp2_with fail
      refine (kW _ HT.out).mono ?_
      rintro e w1 ⟨rfl, b1⟩
      go_wp2_with fail
      refine (kC _).mono ?_
      rintro e w2 ⟨rfl, b2⟩
      go_wp2
      go_ret2
      exact ⟨by rw [HA.out]; rfl, b1.trans (b2.mono b1.size)⟩
    · have HA : Hid (A = (l ++ R, true)) := by have h := HA.out; rw [if_neg (fun h => h.elim hz hb)] at h; exact h
      have hbz : ¬ (2000 : Int) < (l.size : Int) + (R.size : Int) := by omega
      have hno : ¬ 9223372036854775807 < l.size + R.size := by omega
      go_enter Tryd.func9, Tryd.ntmps9
      go_wp2_with fail
      refine (kW _ HT.out).mono ?_
      rintro e w1 ⟨rfl, b1⟩
      go_wp2
      go_ret2
      exact ⟨by rw [HA.out]; rfl, b1⟩
end Go.Proofs.YtdpjlfgfacjfeaaDoor
