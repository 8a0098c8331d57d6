/- What strings.Clone, copyOfHeader, copyOfVals, copyOfAnchor and spec.l11Copy answer: the same, in memory of the call's own; old memory stays. Conditions: what a machine can hold. -/
import Derived.Test.YtajfmjgaaapjeaaGreatDoorVy
import Derived.Test.YtajfmjgaaapjeaaGreatDoorG9
import Derived.Test.YtajfmjgaaapjeaaGreatDoorShelf
import Derived.Test.YtajfmjgaaapjeaaGreatDoorGA
import Derived.Laws.AppendOwnNone
import Derived.Deep.RegionWith
namespace Go.Proofs.YtajfmjgaaapjeaaGreatDoor
open Go.RowKit
open Num
set_option linter.unusedVariables false
set_option maxHeartbeats 800000 in
set_option maxRecDepth 100000 in
theorem impl_clone (s : ByteArray) (w : World) (hs : s.size ≤ 1048576) :
    Calls Tryz.prog 105 #[.string s] w fun e w' => e = .returned (.string s) ∧ Below w.heap.size w w' := by
  go_enter Tryz.func105, Tryz.ntmps105
  go_wp2_with fail
  refine (Tryz.stringslite_Clone s w (by omega)).mono ?_
  rintro e w1 ⟨rfl, hb1⟩
  go_wp2
  go_ret
  exact ⟨rfl, hb1⟩
theorem own_low {w : World} {B B' : Nat} {e : TypeId} {size : Nat} {v : Value} {n : Nat} {xs : List Value} (h : w.ownsRow B e size v n xs) (hb : B' ≤ B) : w.ownsRow B' e size v n xs :=
  ⟨h.1, h.2.imp id fun ⟨g, cap, cur, a, b, c⟩ => ⟨g, cap, cur, a, Nat.le_trans hb b, c⟩⟩
theorem vAt_news {w : World} {b o : Nat} {l : List V} (h : VAt w b o l) : ∀ j u, (vals l)[j]? = some u → w.cell? ((⟨b, o, none⟩ : Addr).add j) = some u := by
  intro j u hj
  have hlt : j < (vals l).length := (List.getElem?_eq_some_iff.1 hj).1
  rw [vals_length] at hlt
  have hadd : (⟨b, o, none⟩ : Addr).add j = ⟨b, o + j, none⟩ := by
    unfold Addr.add
    by_cases h : j = 0 <;> simp [h]
  rw [hadd]
  obtain ⟨h1, h2⟩ := h (j / 2) (by omega)
  obtain ⟨e1, e2⟩ := vals_at l (j / 2) (by omega)
  rcases Nat.mod_two_eq_zero_or_one j with hm | hm
  · rw [show j / 2 * 2 = j from by omega] at h1 e1
    rw [h1, ← e1, hj]
  · rw [show o + j / 2 * 2 + 1 = o + j from by omega] at h2
    rw [show j / 2 * 2 + 1 = j from by omega] at e2
    rw [h2, ← e2, hj]
theorem vO_news {w : World} {ad : Addr} {l : List V} (h : VO w (some ad) l) : ∀ j u, (vals l)[j]? = some u → w.cell? (ad.add j) = some u := by
  rcases h with h0 | ⟨b, o, e, hv⟩
  · intro j u hj
    have hlt : j < (vals l).length := (List.getElem?_eq_some_iff.1 hj).1
    rw [vals_length] at hlt
    omega
  · injection e with e
    subst e
    exact vAt_news hv
/-- A row that the call owns, as a slice, and where it lies. -/
theorem OwnV.nn {w : World} {B : Nat} {v : Value} {l : List V} (h : OwnV w B v l) : ∃ a cap, v = .slice a l.length cap ∧ VO w a l ∧ (a = none → cap = 0) ∧ (∀ b o, a = some ⟨b, o, none⟩ → B ≤ b ∧ b < w.heap.size) := by
  obtain ⟨a, cap, hv, ho, _, _⟩ := h.o
  refine ⟨a, cap, hv, ho, ?_, ?_⟩
  · rintro rfl
    rcases h.2 with ⟨rfl, hn⟩ | ⟨g, cap', cur, rfl, _⟩
    · injection hv with _ _ h3; exact h3.symm
    · injection hv with h1; cases h1
  · rintro b o rfl
    rcases h.2 with ⟨rfl, hn⟩ | ⟨g, cap', cur, rfl, hB, hg, _⟩
    · injection hv with h1; cases h1
    · injection hv with h1
      injection h1 with h1
      injection h1 with h1 h2
      subst h1
      exact ⟨hB, (Array.getElem?_eq_some_iff.1 hg).1⟩
set_option maxHeartbeats 800000 in
set_option maxRecDepth 100000 in
theorem copy_vals (p : Option Addr) (l : List V) (cap : Nat) (w : World) (hl : VO w p l) (hn : p = none → cap = 0) (hlen : l.length ≤ 1099511627776) :
    Calls Tryz.prog 78 #[.slice p l.length cap] w fun e w' => ∃ q, e = .returned q ∧ Hid (OwnV w' w.heap.size q l) ∧ Below w.heap.size w w' := by
  obtain ⟨i0, hinf, hz0, hz1, hz2⟩ := info33f
  rcases p with _ | ad
  · have h0 : l.length = 0 := by
      rcases hl with h | ⟨b, o, e, _⟩
      · exact h
      · cases e
    have hl0 : l = [] := List.length_eq_zero_iff.1 h0
    subst hl0
    obtain rfl : cap = 0 := hn rfl
    go_enter Tryz.func78, Tryz.ntmps78
    go_wp2_with (at_builtin; refine wpList_append_own_none rfl _ _ 28 rfl w.heap.size 88 i0 2 Tryz.underlying28 hinf _ _ _ rfl (OwnV.nil w w.heap.size) rfl ?_)
    go_wp2
    go_ret
    exact ⟨_, rfl, OwnV.nil _ _, Below.refl _ _⟩
  · have HC : Hid (_) := vO_news hl
    have HLen : Hid (l.length ≤ 1099511627776) := hlen
    clear hl hn
    go_enter Tryz.func78, Tryz.ntmps78
    go_wp2_with (at_builtin; refine wpList_append_own _ rfl _ _ 28 rfl w.heap.size 88 i0 (.agg #[.int .i64 0, .int .i64 0]) 2 16 Tryz.underlying28 hinf hz0 hz1 hz2 rfl (by decide) _ _ _ rfl (OwnV.nil w w.heap.size) ad l.length cap (vals l) rfl (vals_length _) HC.out (vals_one _) (by unfold maxLen; simp; omega) (by simp; omega) (Nat.le_refl _) ?_)
    intro v1 w1 hown hgrow _
    have HO1 : Hid (OwnV w1 w.heap.size v1 l) := by first | exact hown | (rw [Nat.zero_add] at hown; exact hown) | (simp at hown; exact hown)
    have HB1 : Below w.heap.size w w1 := (Below.refl _ _).grown hgrow (Nat.le_refl _) (fun j hj => by cases hj)
    clear hown hgrow HC
    go_wp2
    go_ret
    exact ⟨_, rfl, HO1, HB1⟩
set_option maxHeartbeats 1600000 in
set_option maxRecDepth 100000 in
theorem copy_head (x : H) (w : World) (hx : Sml x) :
    Calls Tryz.prog 77 #[hV x] w fun e w' => e = .returned (hV x) ∧ Below w.heap.size w w' := by
  obtain ⟨w0, hw0⟩ : ∃ W, (w.alloc (.cells (hcs x) 27)).alloc (.cells [.int .i64 0, .int .i64 0, .string ⟨#[]⟩, .string ⟨#[]⟩, .string ⟨#[]⟩, .string ⟨#[]⟩].toArray 27) = W := ⟨_, rfl⟩
  have HX0 : Hid (Blk w0 w.heap.size (hcs x).toList 27) := by rw [← hw0]; exact (blk_new w (hcs x).toList _).alloc _
  have HR0 : Hid (Blk w0 (w.heap.size + 1) [.int .i64 0, .int .i64 0, .string ⟨#[]⟩, .string ⟨#[]⟩, .string ⟨#[]⟩, .string ⟨#[]⟩] 27) := by
    rw [← hw0]
    have h := blk_new (w.alloc (.cells (hcs x) 27)) [.int .i64 0, .int .i64 0, .string ⟨#[]⟩, .string ⟨#[]⟩, .string ⟨#[]⟩, .string ⟨#[]⟩] 27
    rw [show (w.alloc (.cells (hcs x) 27)).heap.size = w.heap.size + 1 by simp] at h; exact h
  have HB0 : Hid (Below w.heap.size w w0) := by rw [← hw0]; exact below_two _ _ _
  obtain ⟨h, t, aa, v, n, d⟩ := x
  obtain ⟨f1, f2, f3, f4⟩ := hx
  have k0 := fun W => impl_clone aa W f1
  have k1 := fun W => impl_clone v W f2
  have k2 := fun W => impl_clone n W f3
  have k3 := fun W => impl_clone d W f4
  clear f1 f2 f3 f4
  unfold hV
  unfold hcs at *
  simp only at *
  go_enter Tryz.func77, Tryz.ntmps77
  have x0 := HX0.out.cell 0 rfl
  have x1 := HX0.out.cell 1 rfl
  have x2 := HX0.out.cell 2 rfl
  have x3 := HX0.out.cell 3 rfl
  have x4 := HX0.out.cell 4 rfl
  have x5 := HX0.out.cell 5 rfl
  have fz := HX0.out.frozen 2
  go_wp2_with fail
  try rw [hw0]
  refine (k0 _).mono ?_
  rintro e w1 ⟨rfl, bb⟩
  have HX1 := HX0.out.below bb HX0.out.lt
  have HR1 := HR0.out.below bb HR0.out.lt
  have HB1 := HB0.out.trans (bb.mono HB0.out.size)
  clear x0 x1 x2 x3 x4 x5 fz bb HX0 HR0 HB0 hw0
  have x0 := HX1.cell 0 rfl
  have x1 := HX1.cell 1 rfl
  have x2 := HX1.cell 2 rfl
  have x3 := HX1.cell 3 rfl
  have x4 := HX1.cell 4 rfl
  have x5 := HX1.cell 5 rfl
  have fz := HX1.frozen 2
  obtain ⟨w2, hw2⟩ : ∃ W, w1.setCell ⟨w.heap.size, 2, none⟩ (.string aa) = W := ⟨_, rfl⟩
  have HX2 : Hid (Blk w2 w.heap.size [.int .i64 h, .int .i64 t, .string aa, .string v, .string n, .string d] 27) := by rw [← hw2]; exact HX1.set 2 _
  have HR2 : Hid (Blk w2 (w.heap.size + 1) [.int .i64 0, .int .i64 0, .string ⟨#[]⟩, .string ⟨#[]⟩, .string ⟨#[]⟩, .string ⟨#[]⟩] 27) := by rw [← hw2]; exact HR1.other 2 _ (by omega)
  have HB2 : Hid (Below w.heap.size w w2) := by rw [← hw2]; exact HB1.setCell (Nat.le_refl _) _
  clear HX1 HR1 HB1
  have x0 := HX2.out.cell 0 rfl
  have x1 := HX2.out.cell 1 rfl
  have x2 := HX2.out.cell 2 rfl
  have x3 := HX2.out.cell 3 rfl
  have x4 := HX2.out.cell 4 rfl
  have x5 := HX2.out.cell 5 rfl
  have fz := HX2.out.frozen 3
  go_wp2_with fail
  try rw [hw2]
  refine (k1 _).mono ?_
  rintro e w3 ⟨rfl, bb⟩
  have HX3 := HX2.out.below bb HX2.out.lt
  have HR3 := HR2.out.below bb HR2.out.lt
  have HB3 := HB2.out.trans (bb.mono HB2.out.size)
  clear x0 x1 x2 x3 x4 x5 fz bb HX2 HR2 HB2 hw2
  have x0 := HX3.cell 0 rfl
  have x1 := HX3.cell 1 rfl
  have x2 := HX3.cell 2 rfl
  have x3 := HX3.cell 3 rfl
  have x4 := HX3.cell 4 rfl
  have x5 := HX3.cell 5 rfl
  have fz := HX3.frozen 3
  obtain ⟨w4, hw4⟩ : ∃ W, w3.setCell ⟨w.heap.size, 3, none⟩ (.string v) = W := ⟨_, rfl⟩
  have HX4 : Hid (Blk w4 w.heap.size [.int .i64 h, .int .i64 t, .string aa, .string v, .string n, .string d] 27) := by rw [← hw4]; exact HX3.set 3 _
  have HR4 : Hid (Blk w4 (w.heap.size + 1) [.int .i64 0, .int .i64 0, .string ⟨#[]⟩, .string ⟨#[]⟩, .string ⟨#[]⟩, .string ⟨#[]⟩] 27) := by rw [← hw4]; exact HR3.other 3 _ (by omega)
  have HB4 : Hid (Below w.heap.size w w4) := by rw [← hw4]; exact HB3.setCell (Nat.le_refl _) _
  clear HX3 HR3 HB3
  have x0 := HX4.out.cell 0 rfl
  have x1 := HX4.out.cell 1 rfl
  have x2 := HX4.out.cell 2 rfl
  have x3 := HX4.out.cell 3 rfl
  have x4 := HX4.out.cell 4 rfl
  have x5 := HX4.out.cell 5 rfl
  have fz := HX4.out.frozen 4
  go_wp2_with fail
  try rw [hw4]
  refine (k2 _).mono ?_
  rintro e w5 ⟨rfl, bb⟩
  have HX5 := HX4.out.below bb HX4.out.lt
  have HR5 := HR4.out.below bb HR4.out.lt
  have HB5 := HB4.out.trans (bb.mono HB4.out.size)
  clear x0 x1 x2 x3 x4 x5 fz bb HX4 HR4 HB4 hw4
  have x0 := HX5.cell 0 rfl
  have x1 := HX5.cell 1 rfl
  have x2 := HX5.cell 2 rfl
  have x3 := HX5.cell 3 rfl
  have x4 := HX5.cell 4 rfl
  have x5 := HX5.cell 5 rfl
  have fz := HX5.frozen 4
  obtain ⟨w6, hw6⟩ : ∃ W, w5.setCell ⟨w.heap.size, 4, none⟩ (.string n) = W := ⟨_, rfl⟩
  have HX6 : Hid (Blk w6 w.heap.size [.int .i64 h, .int .i64 t, .string aa, .string v, .string n, .string d] 27) := by rw [← hw6]; exact HX5.set 4 _
  have HR6 : Hid (Blk w6 (w.heap.size + 1) [.int .i64 0, .int .i64 0, .string ⟨#[]⟩, .string ⟨#[]⟩, .string ⟨#[]⟩, .string ⟨#[]⟩] 27) := by rw [← hw6]; exact HR5.other 4 _ (by omega)
  have HB6 : Hid (Below w.heap.size w w6) := by rw [← hw6]; exact HB5.setCell (Nat.le_refl _) _
  clear HX5 HR5 HB5
  have x0 := HX6.out.cell 0 rfl
  have x1 := HX6.out.cell 1 rfl
  have x2 := HX6.out.cell 2 rfl
  have x3 := HX6.out.cell 3 rfl
  have x4 := HX6.out.cell 4 rfl
  have x5 := HX6.out.cell 5 rfl
  have fz := HX6.out.frozen 5
  go_wp2_with fail
  try rw [hw6]
  refine (k3 _).mono ?_
  rintro e w7 ⟨rfl, bb⟩
  have HX7 := HX6.out.below bb HX6.out.lt
  have HR7 := HR6.out.below bb HR6.out.lt
  have HB7 := HB6.out.trans (bb.mono HB6.out.size)
  clear x0 x1 x2 x3 x4 x5 fz bb HX6 HR6 HB6 hw6
  have x0 := HX7.cell 0 rfl
  have x1 := HX7.cell 1 rfl
  have x2 := HX7.cell 2 rfl
  have x3 := HX7.cell 3 rfl
  have x4 := HX7.cell 4 rfl
  have x5 := HX7.cell 5 rfl
  have fz := HX7.frozen 5
  obtain ⟨w8, hw8⟩ : ∃ W, w7.setCell ⟨w.heap.size, 5, none⟩ (.string d) = W := ⟨_, rfl⟩
  have HX8 : Hid (Blk w8 w.heap.size [.int .i64 h, .int .i64 t, .string aa, .string v, .string n, .string d] 27) := by rw [← hw8]; exact HX7.set 5 _
  have HR8 : Hid (Blk w8 (w.heap.size + 1) [.int .i64 0, .int .i64 0, .string ⟨#[]⟩, .string ⟨#[]⟩, .string ⟨#[]⟩, .string ⟨#[]⟩] 27) := by rw [← hw8]; exact HR7.other 5 _ (by omega)
  have HB8 : Hid (Below w.heap.size w w8) := by rw [← hw8]; exact HB7.setCell (Nat.le_refl _) _
  clear HX7 HR7 HB7
  have y0 := HX8.out.cell 0 rfl
  have y1 := HX8.out.cell 1 rfl
  have y2 := HX8.out.cell 2 rfl
  have y3 := HX8.out.cell 3 rfl
  have y4 := HX8.out.cell 4 rfl
  have y5 := HX8.out.cell 5 rfl
  have z0 := HR8.out.cell 0 rfl
  have z1 := HR8.out.cell 1 rfl
  have z2 := HR8.out.cell 2 rfl
  have z3 := HR8.out.cell 3 rfl
  have z4 := HR8.out.cell 4 rfl
  have z5 := HR8.out.cell 5 rfl
  have zf0 := HR8.out.frozen 0
  have zf1 := HR8.out.frozen 1
  have zf2 := HR8.out.frozen 2
  have zf3 := HR8.out.frozen 3
  have zf4 := HR8.out.frozen 4
  have zf5 := HR8.out.frozen 5
  obtain ⟨w9, hw9⟩ : ∃ W, ((((((w8).setCell ⟨w.heap.size + 1, 0, none⟩ (.int .i64 h)).setCell ⟨w.heap.size + 1, 1, none⟩ (.int .i64 t)).setCell ⟨w.heap.size + 1, 2, none⟩ (.string aa)).setCell ⟨w.heap.size + 1, 3, none⟩ (.string v)).setCell ⟨w.heap.size + 1, 4, none⟩ (.string n)).setCell ⟨w.heap.size + 1, 5, none⟩ (.string d) = W := ⟨_, rfl⟩
  have HZ : Hid (Blk w9 (w.heap.size + 1) [.int .i64 h, .int .i64 t, .string aa, .string v, .string n, .string d] 27) := by rw [← hw9]; exact ((((((HR8.out).set 0 _).set 1 _).set 2 _).set 3 _).set 4 _).set 5 _
  have HF : Below w.heap.size w w9 := by rw [← hw9]; exact ((((((HB8.out).setCell (show w.heap.size ≤ w.heap.size + 1 by omega) _).setCell (show w.heap.size ≤ w.heap.size + 1 by omega) _).setCell (show w.heap.size ≤ w.heap.size + 1 by omega) _).setCell (show w.heap.size ≤ w.heap.size + 1 by omega) _).setCell (show w.heap.size ≤ w.heap.size + 1 by omega) _).setCell (show w.heap.size ≤ w.heap.size + 1 by omega) _
  clear HX8 HR8 HB8
  have r0 := HZ.out.cell 0 rfl
  have r1 := HZ.out.cell 1 rfl
  have r2 := HZ.out.cell 2 rfl
  have r3 := HZ.out.cell 3 rfl
  have r4 := HZ.out.cell 4 rfl
  have r5 := HZ.out.cell 5 rfl
  go_wp2
  try rw [hw8]
  try rw [hw9]
  refine bodyPost_ret (v := .agg #[.int .i64 h, .int .i64 t, .string aa, .string v, .string n, .string d]) ?_ rfl ⟨rfl, HF⟩
  simp [results, Tryz.results77, go_sem, r0, r1, r2, r3, r4, r5]
set_option maxHeartbeats 400000 in
set_option maxRecDepth 100000 in
theorem copy_valsS (p : Option Addr) (l : List V) (cap : Nat) (w : World) (hl : VO w p l) (hn : p = none → cap = 0) (hlen : l.length ≤ 1099511627776) :
    Calls Tryz.prog 78 #[.slice p l.length cap] w fun e w' => ∃ u cu, e = .returned (.slice u l.length cu) ∧ Hid (OwnV w' w.heap.size (.slice u l.length cu) l) ∧ Below w.heap.size w w' :=
  (copy_vals p l cap w hl hn hlen).mono fun e w' ⟨q, h1, h2, h3⟩ => by
    obtain ⟨u, cu, rfl, _⟩ := h2.out.nn
    exact ⟨u, cu, h1, h2, h3⟩
set_option maxHeartbeats 3200000 in
set_option maxRecDepth 100000 in
theorem copy_anchor (x : H) (l : List V) (p : Option Addr) (cap : Nat) (w : World) (hl : VO w p l) (hn : p = none → cap = 0) (hlen : l.length ≤ 1099511627776) (hx : Sml x) :
    Calls Tryz.prog 41 #[aV x (.slice p l.length cap)] w fun e w' => ∃ u cu, e = .returned (aV x (.slice u l.length cu)) ∧ Hid (OwnV w' w.heap.size (.slice u l.length cu) l) ∧ Below w.heap.size w w' := by
  obtain ⟨w0, hw0⟩ : ∃ W, (w.alloc (.cells (acs x (.slice p l.length cap)).toArray 30)).alloc (.cells [.int .i64 0, .int .i64 0, .string ⟨#[]⟩, .string ⟨#[]⟩, .string ⟨#[]⟩, .string ⟨#[]⟩, .slice none 0 0].toArray 30) = W := ⟨_, rfl⟩
  have HX0 : Hid (Blk w0 w.heap.size (acs x (.slice p l.length cap)) 30) := by rw [← hw0]; exact (blk_new w _ _).alloc _
  have HR0 : Hid (Blk w0 (w.heap.size + 1) [.int .i64 0, .int .i64 0, .string ⟨#[]⟩, .string ⟨#[]⟩, .string ⟨#[]⟩, .string ⟨#[]⟩, .slice none 0 0] 30) := by
    rw [← hw0]
    have h := blk_new (w.alloc (.cells (acs x (.slice p l.length cap)).toArray 30)) [.int .i64 0, .int .i64 0, .string ⟨#[]⟩, .string ⟨#[]⟩, .string ⟨#[]⟩, .string ⟨#[]⟩, .slice none 0 0] 30
    rw [show (w.alloc (.cells (acs x (.slice p l.length cap)).toArray 30)).heap.size = w.heap.size + 1 by simp] at h; exact h
  have HB0 : Hid (Below w.heap.size w w0) := by rw [← hw0]; exact below_two _ _ _
  have HL : Hid (VO w p l) := hl
  have kH := fun W => copy_head x W hx
  have kV := fun W (h : VO W p l) => copy_valsS p l cap W h hn hlen
  clear hl hx
  obtain ⟨h, t, aa, v, n, d⟩ := x
  unfold aV
  unfold hV at *
  unfold acs at *
  simp only at *
  have hflat : ∀ W, Blk W w.heap.size [.int .i64 h, .int .i64 t, .string aa, .string v, .string n, .string d, .slice p l.length cap] 30 → W.cell? ⟨w.heap.size, 0, none⟩ = some (.int .i64 h) ∧ W.cell? ⟨w.heap.size, 1, none⟩ = some (.int .i64 t) ∧ W.cell? ⟨w.heap.size, 2, none⟩ = some (.string aa) ∧ W.cell? ⟨w.heap.size, 3, none⟩ = some (.string v) ∧ W.cell? ⟨w.heap.size, 4, none⟩ = some (.string n) ∧ W.cell? ⟨w.heap.size, 5, none⟩ = some (.string d) ∧ W.cell? ⟨w.heap.size, 6, none⟩ = some (.slice p l.length cap) := fun W h => ⟨h.cell 0 rfl, h.cell 1 rfl, h.cell 2 rfl, h.cell 3 rfl, h.cell 4 rfl, h.cell 5 rfl, h.cell 6 rfl⟩
  have hzero : ∀ W, Blk W (w.heap.size + 1) [.int .i64 0, .int .i64 0, .string ⟨#[]⟩, .string ⟨#[]⟩, .string ⟨#[]⟩, .string ⟨#[]⟩, .slice none 0 0] 30 → (W.cell? ⟨w.heap.size + 1, 0, none⟩ = some (.int .i64 0) ∧ W.cell? ⟨w.heap.size + 1, 1, none⟩ = some (.int .i64 0) ∧ W.cell? ⟨w.heap.size + 1, 2, none⟩ = some (.string ⟨#[]⟩) ∧ W.cell? ⟨w.heap.size + 1, 3, none⟩ = some (.string ⟨#[]⟩) ∧ W.cell? ⟨w.heap.size + 1, 4, none⟩ = some (.string ⟨#[]⟩) ∧ W.cell? ⟨w.heap.size + 1, 5, none⟩ = some (.string ⟨#[]⟩) ∧ W.cell? ⟨w.heap.size + 1, 6, none⟩ = some (.slice none 0 0)) ∧ (W.frozen? ⟨w.heap.size + 1, 0, none⟩ = false ∧ W.frozen? ⟨w.heap.size + 1, 1, none⟩ = false ∧ W.frozen? ⟨w.heap.size + 1, 2, none⟩ = false ∧ W.frozen? ⟨w.heap.size + 1, 3, none⟩ = false ∧ W.frozen? ⟨w.heap.size + 1, 4, none⟩ = false ∧ W.frozen? ⟨w.heap.size + 1, 5, none⟩ = false ∧ W.frozen? ⟨w.heap.size + 1, 6, none⟩ = false) := fun W h => ⟨⟨h.cell 0 rfl, h.cell 1 rfl, h.cell 2 rfl, h.cell 3 rfl, h.cell 4 rfl, h.cell 5 rfl, h.cell 6 rfl⟩, ⟨h.frozen 0, h.frozen 1, h.frozen 2, h.frozen 3, h.frozen 4, h.frozen 5, h.frozen 6⟩⟩
  obtain ⟨x0, x1, x2, x3, x4, x5, x6⟩ := hflat _ HX0.out
  go_enter Tryz.func41, Tryz.ntmps41
  go_wp2_with fail
  try rw [hw0]
  clear x0 x1 x2 x3 x4 x5 x6
  have HX1 : Hid (Blk w0.drew w.heap.size [.int .i64 h, .int .i64 t, .string aa, .string v, .string n, .string d, .slice p l.length cap] 30) := HX0.out
  have HR1 : Hid (Blk w0.drew (w.heap.size + 1) [.int .i64 0, .int .i64 0, .string ⟨#[]⟩, .string ⟨#[]⟩, .string ⟨#[]⟩, .string ⟨#[]⟩, .slice none 0 0] 30) := HR0.out
  have HB1 : Hid (Below w.heap.size w w0.drew) := HB0.out.drew
  obtain ⟨x0, x1, x2, x3, x4, x5, x6⟩ := hflat _ HX0.out
  clear HX0 HR0 HB0 hw0
  go_region_with (first | (go_at_call 77; refine (kH _).mono ?_; rintro e w2 ⟨rfl, b2⟩; have HX2 : Hid (Blk w2 w.heap.size [.int .i64 h, .int .i64 t, .string aa, .string v, .string n, .string d, .slice p l.length cap] 30) := HX1.out.below b2 HX1.out.lt; have HR2 : Hid (Blk w2 (w.heap.size + 1) [.int .i64 0, .int .i64 0, .string ⟨#[]⟩, .string ⟨#[]⟩, .string ⟨#[]⟩, .string ⟨#[]⟩, .slice none 0 0] 30) := HR1.out.below b2 HR1.out.lt; have HB2 : Hid (Below w.heap.size w w2) := HB1.out.trans (b2.mono HB1.out.size); obtain ⟨u0, u1, u2, u3, u4, u5, u6⟩ := hflat _ HX2.out) | (go_at_call 78; refine (kV _ (HL.out.below HB2.out)).mono ?_; rintro e w3 ⟨u, cu, rfl, HO3, b3⟩; have HX3 : Hid (Blk w3 w.heap.size [.int .i64 h, .int .i64 t, .string aa, .string v, .string n, .string d, .slice p l.length cap] 30) := HX2.out.below b3 HX2.out.lt; have HR3 : Hid (Blk w3 (w.heap.size + 1) [.int .i64 0, .int .i64 0, .string ⟨#[]⟩, .string ⟨#[]⟩, .string ⟨#[]⟩, .string ⟨#[]⟩, .slice none 0 0] 30) := HR2.out.below b3 HR2.out.lt; have HB3 : Hid (Below w.heap.size w w3) := HB2.out.trans (b3.mono HB2.out.size); have HW3 : Hid (OwnV w3 w2.heap.size (.slice u l.length cu) l) := HO3; obtain ⟨⟨z0, z1, z2, z3, z4, z5, z6⟩, ⟨f0, f1, f2, f3, f4, f5, f6⟩⟩ := hzero _ HR3.out))
  all_goals
    obtain ⟨w4, hw4⟩ : ∃ W, (((((((w3).setCell ⟨w.heap.size + 1, 0, none⟩ (.int .i64 h)).setCell ⟨w.heap.size + 1, 1, none⟩ (.int .i64 t)).setCell ⟨w.heap.size + 1, 2, none⟩ (.string aa)).setCell ⟨w.heap.size + 1, 3, none⟩ (.string v)).setCell ⟨w.heap.size + 1, 4, none⟩ (.string n)).setCell ⟨w.heap.size + 1, 5, none⟩ (.string d)).setCell ⟨w.heap.size + 1, 6, none⟩ (.slice u l.length cu) = W := ⟨_, rfl⟩
    have hs2 : w.heap.size + 1 < w2.heap.size := HR2.out.lt
    have HZ : Hid (Blk w4 (w.heap.size + 1) [.int .i64 h, .int .i64 t, .string aa, .string v, .string n, .string d, .slice u l.length cu] 30) := by rw [← hw4]; exact (((((((HR3.out).set 0 _).set 1 _).set 2 _).set 3 _).set 4 _).set 5 _).set 6 _
    have HF : Below w.heap.size w w4 := by rw [← hw4]; exact (((((((HB3.out).setCell (show w.heap.size ≤ w.heap.size + 1 by omega) _).setCell (show w.heap.size ≤ w.heap.size + 1 by omega) _).setCell (show w.heap.size ≤ w.heap.size + 1 by omega) _).setCell (show w.heap.size ≤ w.heap.size + 1 by omega) _).setCell (show w.heap.size ≤ w.heap.size + 1 by omega) _).setCell (show w.heap.size ≤ w.heap.size + 1 by omega) _).setCell (show w.heap.size ≤ w.heap.size + 1 by omega) _
    have HO4 : Hid (OwnV w4 w.heap.size (.slice u l.length cu) l) := by rw [← hw4]; exact own_low (ownsRow_setCell_below (ownsRow_setCell_below (ownsRow_setCell_below (ownsRow_setCell_below (ownsRow_setCell_below (ownsRow_setCell_below (ownsRow_setCell_below HW3.out (show w.heap.size + 1 < w2.heap.size from hs2) _) (show w.heap.size + 1 < w2.heap.size from hs2) _) (show w.heap.size + 1 < w2.heap.size from hs2) _) (show w.heap.size + 1 < w2.heap.size from hs2) _) (show w.heap.size + 1 < w2.heap.size from hs2) _) (show w.heap.size + 1 < w2.heap.size from hs2) _) (show w.heap.size + 1 < w2.heap.size from hs2) _) (by omega)
    clear HX2 HR2 HB2 HX3 HR3 HB3 HW3 HO3 z0 z1 z2 z3 z4 z5 z6 f0 f1 f2 f3 f4 f5 f6
    have r0 := HZ.out.cell 0 rfl
    have r1 := HZ.out.cell 1 rfl
    have r2 := HZ.out.cell 2 rfl
    have r3 := HZ.out.cell 3 rfl
    have r4 := HZ.out.cell 4 rfl
    have r5 := HZ.out.cell 5 rfl
    have r6 := HZ.out.cell 6 rfl
    try rw [hw4]
    go_wp2
    try rw [hw4]
    refine bodyPost_ret (v := .agg #[.int .i64 h, .int .i64 t, .string aa, .string v, .string n, .string d, .slice u l.length cu]) ?_ rfl ⟨_, _, rfl, HO4, HF⟩
    simp [results, Tryz.results41, go_sem, r0, r1, r2, r3, r4, r5, r6]
set_option maxHeartbeats 3200000 in
set_option maxRecDepth 100000 in
theorem spec_copy (x : H) (l : List V) (p : Option Addr) (cap : Nat) (w : World) (hl : VO w p l) (hn : p = none → cap = 0) (hlen : l.length ≤ 1099511627776) :
    Calls Tryz.prog 45 #[aV x (.slice p l.length cap)] w fun e w' => ∃ u cu, e = .returned (aV x (.slice u l.length cu)) ∧ Hid (OwnV w' w.heap.size (.slice u l.length cu) l) ∧ Below w.heap.size w w' := by
  obtain ⟨i0, hinf, hz0, hz1, hz2⟩ := info33f
  obtain ⟨w0, hw0⟩ : ∃ W, (w.alloc (.cells (acs x (.slice p l.length cap)).toArray 30)).alloc (.cells [.int .i64 0, .int .i64 0, .string ⟨#[]⟩, .string ⟨#[]⟩, .string ⟨#[]⟩, .string ⟨#[]⟩, .slice none 0 0].toArray 30) = W := ⟨_, rfl⟩
  have HX0 : Hid (Blk w0 w.heap.size (acs x (.slice p l.length cap)) 30) := by rw [← hw0]; exact (blk_new w _ _).alloc _
  have HR0 : Hid (Blk w0 (w.heap.size + 1) [.int .i64 0, .int .i64 0, .string ⟨#[]⟩, .string ⟨#[]⟩, .string ⟨#[]⟩, .string ⟨#[]⟩, .slice none 0 0] 30) := by
    rw [← hw0]
    have h := blk_new (w.alloc (.cells (acs x (.slice p l.length cap)).toArray 30)) [.int .i64 0, .int .i64 0, .string ⟨#[]⟩, .string ⟨#[]⟩, .string ⟨#[]⟩, .string ⟨#[]⟩, .slice none 0 0] 30
    rw [show (w.alloc (.cells (acs x (.slice p l.length cap)).toArray 30)).heap.size = w.heap.size + 1 by simp] at h; exact h
  have HB0 : Hid (Below w.heap.size w w0) := by rw [← hw0]; exact below_two _ _ _
  obtain ⟨w1, hw1⟩ : ∃ W, w0.alloc (.cells #[] 88) = W := ⟨_, rfl⟩
  have hs0 : w0.heap.size = w.heap.size + 1 + 1 := by rw [← hw0]; simp
  have HX1 : Hid (Blk w1 w.heap.size (acs x (.slice p l.length cap)) 30) := by rw [← hw1]; exact HX0.out.alloc _
  have HR1 : Hid (Blk w1 (w.heap.size + 1) [.int .i64 0, .int .i64 0, .string ⟨#[]⟩, .string ⟨#[]⟩, .string ⟨#[]⟩, .string ⟨#[]⟩, .slice none 0 0] 30) := by rw [← hw1]; exact HR0.out.alloc _
  have HB1 : Hid (Below w.heap.size w w1) := by rw [← hw1]; exact HB0.out.trans ((below_one w0 _).mono HB0.out.size)
  have HO1 : Hid (OwnV w1 w0.heap.size (.slice (some ⟨w0.heap.size, 0, none⟩) 0 0) []) := by
    rw [← hw1]
    exact World.ownsRow_made w0 #[] 0 (Nat.le_refl _) (by decide) rfl
  have HL1 : Hid (VO w1 p l) := hl.below HB1.out
  have hs1 : w0.heap.size < w1.heap.size := by rw [← hw1]; simp
  have hs2 : w.heap.size + 1 < w0.heap.size := by omega
  clear hl HX0 HR0 HB0 hs0
  obtain ⟨h, t, aa, v, n, d⟩ := x
  unfold aV
  unfold acs at *
  simp only at *
  have hflat : ∀ W, Blk W w.heap.size [.int .i64 h, .int .i64 t, .string aa, .string v, .string n, .string d, .slice p l.length cap] 30 → W.cell? ⟨w.heap.size, 0, none⟩ = some (.int .i64 h) ∧ W.cell? ⟨w.heap.size, 1, none⟩ = some (.int .i64 t) ∧ W.cell? ⟨w.heap.size, 2, none⟩ = some (.string aa) ∧ W.cell? ⟨w.heap.size, 3, none⟩ = some (.string v) ∧ W.cell? ⟨w.heap.size, 4, none⟩ = some (.string n) ∧ W.cell? ⟨w.heap.size, 5, none⟩ = some (.string d) ∧ W.cell? ⟨w.heap.size, 6, none⟩ = some (.slice p l.length cap) := fun W h => ⟨h.cell 0 rfl, h.cell 1 rfl, h.cell 2 rfl, h.cell 3 rfl, h.cell 4 rfl, h.cell 5 rfl, h.cell 6 rfl⟩
  have hzero : ∀ W, Blk W (w.heap.size + 1) [.int .i64 0, .int .i64 0, .string ⟨#[]⟩, .string ⟨#[]⟩, .string ⟨#[]⟩, .string ⟨#[]⟩, .slice none 0 0] 30 → (W.cell? ⟨w.heap.size + 1, 0, none⟩ = some (.int .i64 0) ∧ W.cell? ⟨w.heap.size + 1, 1, none⟩ = some (.int .i64 0) ∧ W.cell? ⟨w.heap.size + 1, 2, none⟩ = some (.string ⟨#[]⟩) ∧ W.cell? ⟨w.heap.size + 1, 3, none⟩ = some (.string ⟨#[]⟩) ∧ W.cell? ⟨w.heap.size + 1, 4, none⟩ = some (.string ⟨#[]⟩) ∧ W.cell? ⟨w.heap.size + 1, 5, none⟩ = some (.string ⟨#[]⟩) ∧ W.cell? ⟨w.heap.size + 1, 6, none⟩ = some (.slice none 0 0)) ∧ (W.frozen? ⟨w.heap.size + 1, 0, none⟩ = false ∧ W.frozen? ⟨w.heap.size + 1, 1, none⟩ = false ∧ W.frozen? ⟨w.heap.size + 1, 2, none⟩ = false ∧ W.frozen? ⟨w.heap.size + 1, 3, none⟩ = false ∧ W.frozen? ⟨w.heap.size + 1, 4, none⟩ = false ∧ W.frozen? ⟨w.heap.size + 1, 5, none⟩ = false ∧ W.frozen? ⟨w.heap.size + 1, 6, none⟩ = false) := fun W h => ⟨⟨h.cell 0 rfl, h.cell 1 rfl, h.cell 2 rfl, h.cell 3 rfl, h.cell 4 rfl, h.cell 5 rfl, h.cell 6 rfl⟩, ⟨h.frozen 0, h.frozen 1, h.frozen 2, h.frozen 3, h.frozen 4, h.frozen 5, h.frozen 6⟩⟩
  rcases p with _ | ad
  · have h0 : l.length = 0 := by
      rcases HL1.out with h | ⟨b, o, e, _⟩
      · exact h
      · cases e
    have hl0 : l = [] := List.length_eq_zero_iff.1 h0
    subst hl0
    obtain rfl : cap = 0 := hn rfl
    clear HX1 HR1 HB1 HO1 HL1 hs1 hs2 hw0 hw1 w0 w1 hflat hzero hn h0 hlen
    go_enter Tryz.func45, Tryz.ntmps45
    go_wp2_with (at_builtin; refine wpList_append_own_none rfl _ _ 28 rfl (w.heap.size + 1 + 1) 88 i0 2 Tryz.underlying28 hinf _ _ _ rfl (by have hh := World.ownsRow_made (e := 88) (size := 2) ((w.alloc (.cells #[.int .i64 h, .int .i64 t, .string aa, .string v, .string n, .string d, .slice none 0 0] 30)).alloc (.cells #[.int .i64 0, .int .i64 0, .string ⟨#[]⟩, .string ⟨#[]⟩, .string ⟨#[]⟩, .string ⟨#[]⟩, .slice none 0 0] 30)) #[] 0 (Nat.le_refl _) (by decide) rfl; simp at hh ⊢; exact hh) rfl ?_)
    have hO : OwnV (((w.alloc (Obj.cells #[.int .i64 h, .int .i64 t, .string aa, .string v, .string n, .string d, .slice (some ⟨w.heap.size + 1 + 1, 0, none⟩) 0 0] 30)).alloc (Obj.cells #[.int .i64 h, .int .i64 t, .string aa, .string v, .string n, .string d, .slice (some ⟨w.heap.size + 1 + 1, 0, none⟩) 0 0] 30)).alloc (Obj.cells #[] 88)) w.heap.size (.slice (some ⟨w.heap.size + 1 + 1, 0, none⟩) 0 0) [] := by
      have hh := own_low (World.ownsRow_made (e := 88) (size := 2) ((w.alloc (Obj.cells #[.int .i64 h, .int .i64 t, .string aa, .string v, .string n, .string d, .slice (some ⟨w.heap.size + 1 + 1, 0, none⟩) 0 0] 30)).alloc (Obj.cells #[.int .i64 h, .int .i64 t, .string aa, .string v, .string n, .string d, .slice (some ⟨w.heap.size + 1 + 1, 0, none⟩) 0 0] 30)) #[] 0 (Nat.le_refl _) (by decide) rfl) (show w.heap.size ≤ ((w.alloc (Obj.cells #[.int .i64 h, .int .i64 t, .string aa, .string v, .string n, .string d, .slice (some ⟨w.heap.size + 1 + 1, 0, none⟩) 0 0] 30)).alloc (Obj.cells #[.int .i64 h, .int .i64 t, .string aa, .string v, .string n, .string d, .slice (some ⟨w.heap.size + 1 + 1, 0, none⟩) 0 0] 30)).heap.size by simp; omega)
      rw [show ((w.alloc (Obj.cells #[.int .i64 h, .int .i64 t, .string aa, .string v, .string n, .string d, .slice (some ⟨w.heap.size + 1 + 1, 0, none⟩) 0 0] 30)).alloc (Obj.cells #[.int .i64 h, .int .i64 t, .string aa, .string v, .string n, .string d, .slice (some ⟨w.heap.size + 1 + 1, 0, none⟩) 0 0] 30)).heap.size = w.heap.size + 1 + 1 by simp] at hh
      exact hh
    have hB : Below w.heap.size w (((w.alloc (Obj.cells #[.int .i64 h, .int .i64 t, .string aa, .string v, .string n, .string d, .slice (some ⟨w.heap.size + 1 + 1, 0, none⟩) 0 0] 30)).alloc (Obj.cells #[.int .i64 h, .int .i64 t, .string aa, .string v, .string n, .string d, .slice (some ⟨w.heap.size + 1 + 1, 0, none⟩) 0 0] 30)).alloc (Obj.cells #[] 88)) := (below_two _ _ _).trans ((below_one _ _).mono (by simp; omega))
    go_wp2
    refine bodyPost_ret (v := .agg #[.int .i64 h, .int .i64 t, .string aa, .string v, .string n, .string d, .slice (some ⟨w.heap.size + 1 + 1, 0, none⟩) 0 0]) ?_ rfl ⟨_, _, rfl, hO, hB⟩
    simp [results, Tryz.results45, go_sem]
  · have HC : Hid (_) := vO_news HL1.out
    have HLen : Hid (l.length ≤ 1099511627776) := hlen
    clear hn
    obtain ⟨x0, x1, x2, x3, x4, x5, x6⟩ := hflat _ HX1.out
    go_enter Tryz.func45, Tryz.ntmps45
    go_wp2_with (at_builtin; refine wpList_append_own _ rfl _ _ 28 rfl w0.heap.size 88 i0 (.agg #[.int .i64 0, .int .i64 0]) 2 16 Tryz.underlying28 hinf hz0 hz1 hz2 rfl (by decide) _ _ _ rfl HO1.out ad l.length cap (vals l) rfl (vals_length _) HC.out (vals_one _) (by unfold maxLen; simp; omega) (by simp; omega) (Nat.le_of_lt hs1) ?_)
    intro v1 w2 hown hgrow _
    try rw [hw0] at hgrow
    try rw [hw1] at hgrow
    have HO2' : OwnV w2 w0.heap.size v1 l := by first | exact hown | (rw [Nat.zero_add] at hown; exact hown) | (simp at hown; exact hown)
    have b2' : Below w0.heap.size w1 w2 := (Below.refl _ _).grown hgrow (by omega) (fun j hj => (HO1.out.lt j hj).1)
    obtain ⟨u, cu, rfl, _⟩ := HO2'.nn
    have HO2 : Hid (OwnV w2 w0.heap.size (.slice u l.length cu) l) := HO2'
    clear HO2' hown hgrow HC
    have HX2 : Hid (Blk w2 w.heap.size [.int .i64 h, .int .i64 t, .string aa, .string v, .string n, .string d, .slice (some ad) l.length cap] 30) := HX1.out.below b2' (by omega)
    have HR2 : Hid (Blk w2 (w.heap.size + 1) [.int .i64 0, .int .i64 0, .string ⟨#[]⟩, .string ⟨#[]⟩, .string ⟨#[]⟩, .string ⟨#[]⟩, .slice none 0 0] 30) := HR1.out.below b2' (by omega)
    have HB2 : Hid (Below w.heap.size w w2) := HB1.out.trans (b2'.mono (by omega))
    clear x0 x1 x2 x3 x4 x5 x6 HX1 HR1 HB1 HL1 HO1
    obtain ⟨x0, x1, x2, x3, x4, x5, x6⟩ := hflat _ HX2.out
    obtain ⟨⟨z0, z1, z2, z3, z4, z5, z6⟩, ⟨f0, f1, f2, f3, f4, f5, f6⟩⟩ := hzero _ HR2.out
    have fx := HX2.out.frozen 6
    obtain ⟨w4, hw4⟩ : ∃ W, (((((((w2.setCell ⟨w.heap.size, 6, none⟩ (.slice u l.length cu)).setCell ⟨w.heap.size + 1, 0, none⟩ (.int .i64 h)).setCell ⟨w.heap.size + 1, 1, none⟩ (.int .i64 t)).setCell ⟨w.heap.size + 1, 2, none⟩ (.string aa)).setCell ⟨w.heap.size + 1, 3, none⟩ (.string v)).setCell ⟨w.heap.size + 1, 4, none⟩ (.string n)).setCell ⟨w.heap.size + 1, 5, none⟩ (.string d)).setCell ⟨w.heap.size + 1, 6, none⟩ (.slice u l.length cu) = W := ⟨_, rfl⟩
    have HZ : Hid (Blk w4 (w.heap.size + 1) [.int .i64 h, .int .i64 t, .string aa, .string v, .string n, .string d, .slice u l.length cu] 30) := by rw [← hw4]; exact ((((((((HR2.out.other 6 _ (by omega))).set 0 _).set 1 _).set 2 _).set 3 _).set 4 _).set 5 _).set 6 _
    have HF : Below w.heap.size w w4 := by rw [← hw4]; exact ((((((((HB2.out.setCell (Nat.le_refl _) _)).setCell (show w.heap.size ≤ w.heap.size + 1 by omega) _).setCell (show w.heap.size ≤ w.heap.size + 1 by omega) _).setCell (show w.heap.size ≤ w.heap.size + 1 by omega) _).setCell (show w.heap.size ≤ w.heap.size + 1 by omega) _).setCell (show w.heap.size ≤ w.heap.size + 1 by omega) _).setCell (show w.heap.size ≤ w.heap.size + 1 by omega) _).setCell (show w.heap.size ≤ w.heap.size + 1 by omega) _
    have HO4 : Hid (OwnV w4 w.heap.size (.slice u l.length cu) l) := by rw [← hw4]; exact own_low (ownsRow_setCell_below (ownsRow_setCell_below (ownsRow_setCell_below (ownsRow_setCell_below (ownsRow_setCell_below (ownsRow_setCell_below (ownsRow_setCell_below (ownsRow_setCell_below HO2.out (show w.heap.size < w0.heap.size by omega) _) (show w.heap.size + 1 < w0.heap.size by omega) _) (show w.heap.size + 1 < w0.heap.size by omega) _) (show w.heap.size + 1 < w0.heap.size by omega) _) (show w.heap.size + 1 < w0.heap.size by omega) _) (show w.heap.size + 1 < w0.heap.size by omega) _) (show w.heap.size + 1 < w0.heap.size by omega) _) (show w.heap.size + 1 < w0.heap.size by omega) _) (by omega)
    clear HX2 HR2 HB2 HO2 b2'
    have r0 := HZ.out.cell 0 rfl
    have r1 := HZ.out.cell 1 rfl
    have r2 := HZ.out.cell 2 rfl
    have r3 := HZ.out.cell 3 rfl
    have r4 := HZ.out.cell 4 rfl
    have r5 := HZ.out.cell 5 rfl
    have r6 := HZ.out.cell 6 rfl
    go_wp2
    try rw [hw4]
    refine bodyPost_ret (v := .agg #[.int .i64 h, .int .i64 t, .string aa, .string v, .string n, .string d, .slice u l.length cu]) ?_ rfl (by first | exact ⟨_, _, rfl, HO4, HF⟩ | (rw [hw0, hw1, hw4]; exact ⟨_, _, rfl, HO4, HF⟩) | (rw [hw1, hw4]; exact ⟨_, _, rfl, HO4, HF⟩))
    try rw [hw0, hw1, hw4]
    try rw [hw1, hw4]
    simp [results, Tryz.results45, go_sem, r0, r1, r2, r3, r4, r5, r6]
end Go.Proofs.YtajfmjgaaapjeaaGreatDoor
