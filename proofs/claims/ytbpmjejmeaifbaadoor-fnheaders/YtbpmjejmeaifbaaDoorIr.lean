/- What the program's readers do: a number, or a text with its size ahead, taken off what is left; all but the reader's own cell stays. Conditions: texts of at most 2 to the 40 bytes. -/
import Derived.Test.YtbpmjejmeaifbaaDoorShelf
import Derived.Test.YtbpmjejmeaifbaaDoorRvi
import Derived.Test.YtbpmjejmeaifbaaDoorMC
namespace Go.Proofs.YtbpmjejmeaifbaaDoor
open Go.RowKit
open Num
set_option linter.unusedVariables false
theorem grown_refl (w : World) (r : Option Nat) : w.grownBy w r := ⟨rfl, rfl, rfl, Nat.le_refl _, fun _ _ _ => rfl⟩
theorem grown_trans {a b c : World} {r : Option Nat} (h : a.grownBy b r) (k : b.grownBy c r) : a.grownBy c r :=
  ⟨k.os.trans h.os, k.tape.trans h.tape, k.output.trans h.output, Nat.le_trans h.size k.size, fun i hi hr => (k.block i (Nat.lt_of_lt_of_le hi h.size) hr).trans (h.block i hi hr)⟩
theorem grown_set {a w : World} {g j : Nat} (h : a.grownBy w (some g)) (u : Value) : a.grownBy (w.setCell ⟨g, j, none⟩ u) (some g) :=
  grown_trans h ⟨rfl, rfl, rfl, by simp, fun k _ hk => heap_setCell_other w ⟨g, j, none⟩ k u (fun e => hk (by simp [e]))⟩
/-- A reader at block g: what is left. -/
def Rdr (w : World) (g : Nat) (s : ByteArray) : Prop := w.cell? ⟨g, 0, none⟩ = some (.string s) ∧ w.frozen? ⟨g, 0, none⟩ = false
theorem Rdr.lt {w : World} {g : Nat} {s : ByteArray} (h : Rdr w g s) : g < w.heap.size := World.block_lt_of_cell? w _ h.1
theorem Rdr.put {w : World} {g : Nat} {s : ByteArray} (t : ByteArray) (h : Rdr w g s) : Rdr (w.setCell ⟨g, 0, none⟩ (.string t)) g t :=
  ⟨World.cell?_setCell_same _ _ _ h.1, by rw [World.frozen?_setCell]; exact h.2⟩
theorem Rdr.keep {w w' : World} {g : Nat} {s : ByteArray} (h : Rdr w g s) (hb : Below w.heap.size w w') : Rdr w' g s :=
  ⟨(hb.cell (p := ⟨g, 0, none⟩) h.lt).trans h.1, (hb.frozen (p := ⟨g, 0, none⟩) h.lt).trans h.2⟩
theorem grown_below {w w' : World} (h : Below w.heap.size w w') (r : Option Nat) : w.grownBy w' r := ⟨h.os, h.tape, h.output, h.size, fun k hk _ => h.block k hk⟩
set_option maxHeartbeats 400000 in
theorem impl_clone (s : ByteArray) (w : World) (hs : s.size ≤ 1099511627776) :
    Calls Tryd.prog 61 #[.string s] w fun e w' => e = .returned (.string s) ∧ Below w.heap.size w w' := by
  go_enter Tryd.func61, Tryd.ntmps61
  go_wp2_with fail
  refine (Tryd.stringslite_Clone s w (by omega)).mono ?_
  rintro e w1 ⟨rfl, hb1⟩
  go_wp2
  go_ret
  exact ⟨rfl, hb1⟩
set_option maxHeartbeats 800000 in
theorem impl_rnum (g : Nat) (s : ByteArray) (w : World) (h : Rdr w g s) (hs : s.size ≤ 1099511627776) :
    Calls Tryd.prog 31 #[.pointer (some ⟨g, 0, none⟩)] w fun e w' => e = .returned (.int .i64 (nI s)) ∧ w' = w.setCell ⟨g, 0, none⟩ (.string (nR s)) := by
  have kR := fun W => impl_rv s W (by unfold maxLen; omega)
  have hb := (rv_bound s.data.toList).1
  rw [len_toList] at hb
  unfold nI nR
  obtain ⟨⟨x, m⟩, hr⟩ : ∃ r, rv s.data.toList = r := ⟨_, rfl⟩
  rw [hr] at kR hb ⊢
  simp only at kR hb ⊢
  clear hr
  have hm : (m : Int) ≤ (s.size : Int) := by omega
  obtain ⟨c0, f0⟩ := h
  go_enter Tryd.func31, Tryd.ntmps31
  go_wp2_with fail
  refine (kR _).mono ?_
  rintro e w1 ⟨rfl, rfl⟩
  go_wp2
  go_ret
  exact ⟨rfl, rfl⟩
set_option maxHeartbeats 800000 in
theorem impl_rsized (g : Nat) (s : ByteArray) (w : World) (h : Rdr w g s) (hs : s.size ≤ 1099511627776) :
    Calls Tryd.prog 32 #[.pointer (some ⟨g, 0, none⟩)] w fun e w' => e = .returned (.string (zP s)) ∧ Rdr w' g (zR s) ∧ w.grownBy w' (some g) := by
  have kN := impl_rnum g s w h hs
  have hn0 := (rv_bound s.data.toList).2.1
  have hq := nR_size s
  have HR1 : Hid (Rdr (w.setCell ⟨g, 0, none⟩ (.string (nR s))) g (nR s)) := h.put _
  have HG1 : Hid (w.grownBy (w.setCell ⟨g, 0, none⟩ (.string (nR s))) (some g)) := grown_set (grown_refl _ _) _
  unfold zP zR zM
  change 0 ≤ nI s at hn0
  generalize nI s = x at *
  generalize nR s = q at *
  obtain ⟨m, hm⟩ : ∃ m, min x.toNat q.size = m := ⟨_, rfl⟩
  rw [hm]
  have kC := fun W => impl_clone (q.extract 0 m) W (by rw [ByteArray.size_extract]; omega)
  have hmx : min x (q.size : Int) = (m : Int) := by omega
  have hm0 : (m : Int) ≤ (q.size : Int) := by omega
  clear hm hq
  generalize w.setCell ⟨g, 0, none⟩ (.string q) = w1 at *
  obtain ⟨c0, f0⟩ := HR1.out
  have HM : Hid (min x (q.size : Int) = (m : Int)) := hmx
  go_enter Tryd.func32, Tryd.ntmps32
  go_wp2_with fail
  refine kN.mono ?_
  rintro e w2 ⟨rfl, rfl⟩
  go_wp2_with fail
  refine (kC _).mono ?_
  rintro e w3 ⟨rfl, b3⟩
  have HR3 : Hid (Rdr w3 g q) := HR1.out.keep b3
  have HG3 : Hid (w.grownBy w3 (some g)) := grown_trans HG1.out (grown_below b3 _)
  clear c0 f0 b3
  obtain ⟨c0, f0⟩ := HR3.out
  go_wp2
  go_ret
  exact ⟨rfl, HR3.out.put _, grown_set HG3.out _⟩
end Go.Proofs.YtbpmjejmeaifbaaDoor
