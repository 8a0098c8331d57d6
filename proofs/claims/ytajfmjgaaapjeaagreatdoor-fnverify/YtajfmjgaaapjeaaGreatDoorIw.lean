/- What the program's writers do: the bytes of a number, or of a text with its size ahead, behind those that lie there; memory below the writer stays. Conditions: at most 2 to the 20 bytes lie there. -/
import Derived.Test.YtajfmjgaaapjeaaGreatDoorG4
import Derived.Test.YtajfmjgaaapjeaaGreatDoorVar
import Derived.Lib.AppendStr
import Derived.Deep.RegionHeld3
import Derived.Test.YtajfmjgaaapjeaaGreatDoorG8
namespace Go.Proofs.YtajfmjgaaapjeaaGreatDoor
open Go.RowKit
open Num
set_option linter.unusedVariables false
abbrev OwnB (w : World) (B : Nat) (v : Value) (l : List UInt8) : Prop := w.ownsRow B 5 1 v l.length (l.map u8v)
/-- A writer at block g: a row of bytes of its own, laid behind it. -/
def Wr (w : World) (g : Nat) (v : Value) (l : List UInt8) : Prop := w.cell? ⟨g, 0, none⟩ = some v ∧ w.frozen? ⟨g, 0, none⟩ = false ∧ OwnB w (g + 1) v l
theorem own_keepB {w w' : World} {B : Nat} {v : Value} {l : List UInt8} (h : OwnB w B v l) (hb : Below w.heap.size w w') : OwnB w' B v l := by
  obtain ⟨h1, h2⟩ := h
  refine ⟨h1, ?_⟩
  rcases h2 with h2 | ⟨g, cap, cur, hv, hg, hh, r⟩
  · exact Or.inl h2
  · refine Or.inr ⟨g, cap, cur, hv, hg, ?_, r⟩
    rw [hb.block g (by have := Array.getElem?_eq_some_iff.1 hh; exact this.1)]; exact hh
theorem Wr.lt {w : World} {g : Nat} {v : Value} {l : List UInt8} (h : Wr w g v l) : g < w.heap.size := World.block_lt_of_cell? w _ h.1
theorem Wr.keep {w w' : World} {g : Nat} {v : Value} {l : List UInt8} (h : Wr w g v l) (hb : Below w.heap.size w w') : Wr w' g v l :=
  ⟨(hb.cell (p := ⟨g, 0, none⟩) h.lt).trans h.1, (hb.frozen (p := ⟨g, 0, none⟩) h.lt).trans h.2.1, own_keepB h.2.2 hb⟩
theorem strCells_u8 (s : ByteArray) : Lib.strCells s = s.data.toList.map u8v := by
  unfold Lib.strCells; rfl
theorem Wr.put {w w4 : World} {g : Nat} {v u : Value} {l m : List UInt8} (h : Wr w g v l) (hg : w.grownBy w4 v.ownBlock) (ho : OwnB w4 (g + 1) u m) : Wr (w4.setCell ⟨g, 0, none⟩ u) g u m ∧ Below g w (w4.setCell ⟨g, 0, none⟩ u) := by
  have hb : Below (g + 1) w w4 := (Below.refl _ _).grown hg (by have := h.lt; omega) (fun j hj => (h.2.2.lt j hj).1)
  have hc := (hb.cell (p := ⟨g, 0, none⟩) (Nat.lt_succ_self _)).trans h.1
  have hf := (hb.frozen (p := ⟨g, 0, none⟩) (Nat.lt_succ_self _)).trans h.2.1
  exact ⟨⟨World.cell?_setCell_same _ _ _ hc, by rw [World.frozen?_setCell]; exact hf, ownsRow_setCell_below ho (Nat.lt_succ_self _) _⟩, (hb.mono (Nat.le_succ _)).setCell (Nat.le_refl _) _⟩
theorem Wr.far {w w4 : World} {g : Nat} {v : Value} {l : List UInt8} (h : Wr w g v l) (hg : w.grownBy w4 v.ownBlock) : w4.cell? ⟨g, 0, none⟩ = some v ∧ w4.frozen? ⟨g, 0, none⟩ = false := by
  have hb : Below (g + 1) w w4 := (Below.refl _ _).grown hg (by have := h.lt; omega) (fun j hj => (h.2.2.lt j hj).1)
  exact ⟨(hb.cell (p := ⟨g, 0, none⟩) (Nat.lt_succ_self _)).trans h.1, (hb.frozen (p := ⟨g, 0, none⟩) (Nat.lt_succ_self _)).trans h.2.1⟩
theorem own_shape {w : World} {B n : Nat} {e : TypeId} {size : Nat} {v : Value} {xs : List Value} (h : w.ownsRow B e size v n xs) : ∃ a c, v = .slice a n c := by
  rcases h.2 with ⟨rfl, rfl⟩ | ⟨g, cap, cur, rfl, _⟩
  · exact ⟨_, _, rfl⟩
  · exact ⟨_, _, rfl⟩
theorem own_cat {w : World} {B : Nat} {v : Value} {l : List UInt8} {s : ByteArray} (h : w.ownsRow B 5 1 v (l.length + s.size) (l.map u8v ++ Lib.strCells s)) : OwnB w B v (l ++ s.data.toList) := by
  unfold OwnB
  rw [List.map_append, List.length_append, len_toList, ← strCells_u8]; exact h
/-- Every block stays but the writer's and that of its row. -/
def Kp (w w' : World) (g : Nat) (v : Value) : Prop := ∀ b, b < w.heap.size → b ≠ g → v.ownBlock ≠ some b → w'.heap[b]? = w.heap[b]?
theorem kp_of {w w1 w4 : World} {g : Nat} {v u : Value} (hb : Below w.heap.size w w1) (hg : w1.grownBy w4 v.ownBlock) : Kp w (w4.setCell ⟨g, 0, none⟩ u) g v := fun b h1 h2 h3 => by
  rw [heap_setCell_other w4 ⟨g, 0, none⟩ b u h2, hg.block b (Nat.lt_of_lt_of_le h1 hb.size) (fun e => h3 e.symm), hb.block b h1]
set_option maxHeartbeats 800000 in
set_option maxRecDepth 100000 in
theorem impl_num (g : Nat) (n : Int) (v : Value) (l : List UInt8) (w : World) (h : Wr w g v l) (hl : l.length ≤ 1048576) :
    Calls Tryz.prog 110 #[.pointer (some ⟨g, 0, none⟩), .int .i64 n] w fun e w' => e = .returned (.tuple #[]) ∧ ∃ v', Wr w' g v' (l ++ (var n).data.toList) ∧ Below g w w' ∧ Kp w w' g v := by
  obtain ⟨i0, hi, hz0, hz1, hz2⟩ := info5f
  have hv := var_size n
  have kV := fun W => impl_var n W
  generalize var n = s at *
  have HB0 : Hid (Below w.heap.size w w.drew) := (Below.refl _ _).drew
  have HW : Hid (Wr w.drew g v l) := h.keep HB0.out
  have x0 := h.1
  have hlt := h.lt
  clear h
  go_enter Tryz.func110, Tryz.ntmps110
  go_wp2_with fail
  go_region_law (first | (refine step_append_str (by rfl) _ _ 22 9 (by rfl) (g + 1) 5 i0 Tryz.underlying22 Tryz.underlying9 hi hz0 hz1 hz2 _ _ _ (by rfl) HW1.out.2.2 s (by rfl) (by unfold maxLen; omega) (by omega) (by have := HW1.out.lt; omega) ?_; intro v4 w4 hown' hgrow; obtain ⟨a4, c4, rfl⟩ := own_shape hown'; have HW4 : Hid (w4.cell? ⟨g, 0, none⟩ = some v ∧ w4.frozen? ⟨g, 0, none⟩ = false) := HW1.out.far hgrow; have x4 := HW4.out.1; have f4 := HW4.out.2) | (refine step_call1 (by rfl) 113 _ _ (by rfl) Tryz.f113 Tryz.func113 (by kernel_rfl) (by kernel_rfl) _ _ (by rfl) _ (kV _) ?_; intro w1 b1; have HW1 : Hid (Wr w1 g v l) := HW.out.keep b1; have x1 := HW1.out.1; have f1 := HW1.out.2.1))
  all_goals
    have HF : Hid (_ ∧ _) := HW1.out.put hgrow (own_cat hown')
    have HB : Hid (Below g w (w4.setCell ⟨g, 0, none⟩ (Value.slice a4 (l.length + s.size) c4))) := ((HB0.out.trans (b1.mono HB0.out.size)).mono (by omega)).trans HF.out.2
    have HK : Hid (Kp w (w4.setCell ⟨g, 0, none⟩ (Value.slice a4 (l.length + s.size) c4)) g v) := kp_of (HB0.out.trans (b1.mono HB0.out.size)) hgrow
    go_wp2
    refine bodyPost_end (results_none rfl _ _ _) rfl ?_
    exact ⟨rfl, _, HF.out.1, HB.out, HK.out⟩
set_option maxHeartbeats 800000 in
set_option maxRecDepth 100000 in
theorem impl_sized (g : Nat) (s : ByteArray) (v : Value) (l : List UInt8) (w : World) (h : Wr w g v l) (hl : l.length ≤ 1048000) (hs : s.size ≤ 1048576) :
    Calls Tryz.prog 111 #[.pointer (some ⟨g, 0, none⟩), .string s] w fun e w' => e = .returned (.tuple #[]) ∧ ∃ v', Wr w' g v' (l ++ (pc s).data.toList) ∧ Below g w w' := by
  obtain ⟨i0, hi, hz0, hz1, hz2⟩ := info5f
  have hv := var_size (s.size : Int)
  have kN := impl_num g (s.size : Int) v l w h (by omega)
  have HP : Hid (l ++ (pc s).data.toList = l ++ (var (s.size : Int)).data.toList ++ s.data.toList) := by show _ = _; unfold pc; rw [list_append, List.append_assoc]
  have hlen : (l ++ (var (s.size : Int)).data.toList).length ≤ 1048576 := by rw [List.length_append, len_toList]; omega
  have hlt := h.lt
  clear h hv hl
  generalize l ++ (var (s.size : Int)).data.toList = m at *
  generalize l ++ (pc s).data.toList = r at *
  go_enter Tryz.func111, Tryz.ntmps111
  go_wp2_with fail
  refine kN.mono ?_
  rintro e w1 ⟨rfl, v1, h1, b1, _⟩
  have HW1 : Hid (Wr w1 g v1 m) := h1
  have HB1 : Hid (Below g w w1) := b1
  have x1 := h1.1
  clear h1 b1
  go_wp2_with (at_builtin; refine Lib.wpList_append_own_string _ rfl _ _ 22 9 rfl (g + 1) 5 i0 Tryz.underlying22 Tryz.underlying9 hi hz0 hz1 hz2 _ _ _ rfl HW1.out.2.2 s rfl (by unfold maxLen; omega) (by omega) (by have := HW1.out.lt; omega) ?_)
  intro v4 w4 hown' hgrow _
  obtain ⟨a4, c4, rfl⟩ := own_shape hown'
  have HW4 : Hid (w4.cell? ⟨g, 0, none⟩ = some v1 ∧ w4.frozen? ⟨g, 0, none⟩ = false) := HW1.out.far hgrow
  have x4 := HW4.out.1
  have f4 := HW4.out.2
  have HF : Hid (_ ∧ _) := HW1.out.put hgrow (own_cat hown')
  have HB : Hid (Below g w (w4.setCell ⟨g, 0, none⟩ (Value.slice a4 (m.length + s.size) c4))) := HB1.out.trans HF.out.2
  go_wp2
  refine bodyPost_end (results_none rfl _ _ _) rfl ?_
  exact ⟨rfl, _, by rw [HP.out]; exact HF.out.1, HB.out⟩
end Go.Proofs.YtajfmjgaaapjeaaGreatDoor
