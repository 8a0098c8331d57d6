/- What the laws' helpers szAnchor, toAnchor, eqHeader and eqAnchor answer; old memory stays. Conditions: rows and texts that a machine can hold. -/
import Derived.Test.YtajfmjgaaapjeaaGreatDoorAn
import Derived.Test.YtajfmjgaaapjeaaGreatDoorG9
import Derived.Test.YtajfmjgaaapjeaaGreatDoorLv
namespace Go.Proofs.YtajfmjgaaapjeaaGreatDoor
open Go.RowKit
open Num
set_option linter.unusedVariables false
set_option maxHeartbeats 1600000 in
set_option maxRecDepth 100000 in
theorem eq_head (x : H) (w : World) :
    Calls Tryz.prog 58 #[hV x, hV x] w fun e w' => e = .returned (.bool true) ∧ Below w.heap.size w w' := by
  obtain ⟨h, t, a, v, n, d⟩ := x
  unfold hV
  simp only
  go_enter Tryz.func58, Tryz.ntmps58
  go_wp2
  go_ret
  exact ⟨rfl, ((Below.refl _ _).alloc (Nat.le_refl _) _).alloc (by simp) _⟩
set_option maxHeartbeats 1600000 in
set_option maxRecDepth 100000 in
theorem sz_anchor (x : H) (p : Option Addr) (m cap : Nat) (left : Int) (w : World) (hx : Fits x) (hm : m ≤ 9223372036854775807) (h0 : 0 ≤ left) (h1 : left ≤ 1048576) :
    Calls Tryz.prog 14 #[aV x (.slice p m cap), .int .i64 left] w fun e w' => ∃ r : Int, e = .returned (.int .i64 r) ∧ r ≤ 1048576 ∧ Hid (0 ≤ r → Sml x ∧ m ≤ 1048576) ∧ Below w.heap.size w w' := by
  have H1 : Hid (Blk (w.alloc (.cells (acs x (.slice p m cap)).toArray 48)) w.heap.size (acs x (.slice p m cap)) 48) := blk_new w _ _
  have HB : Hid (Below w.heap.size w (w.alloc (.cells (acs x (.slice p m cap)).toArray 48))) := below_one _ _
  have kH := fun W => sz_headL x left W hx h0 h1
  have kZ := fun (r : Int) W (a : 0 ≤ r) (b : r ≤ 1048576) => sz_any p m cap r W hm a b
  clear hx h0
  obtain ⟨h, t, aa, v, n, d⟩ := x
  unfold aV
  unfold hV at *
  unfold acs at *
  simp only at *
  have x0 := H1.out.cell 0 rfl
  have x1 := H1.out.cell 1 rfl
  have x2 := H1.out.cell 2 rfl
  have x3 := H1.out.cell 3 rfl
  have x4 := H1.out.cell 4 rfl
  have x5 := H1.out.cell 5 rfl
  have x6 := H1.out.cell 6 rfl
  go_enter Tryz.func14, Tryz.ntmps14
  go_wp2_with fail
  generalize w.alloc (Obj.cells #[Value.int IntKind.i64 h, Value.int IntKind.i64 t, Value.string aa, Value.string v, Value.string n, Value.string d, Value.slice p m cap] 48) = w1 at *
  refine (kH _).mono ?_
  rintro e w2 ⟨r, rfl, hr, hsm, b2⟩
  have H2 : Hid (Blk w2 w.heap.size [.int .i64 h, .int .i64 t, .string aa, .string v, .string n, .string d, .slice p m cap] 48) := H1.out.below b2 H1.out.lt
  have HB2 : Hid (Below w.heap.size w w2) := HB.out.trans (b2.mono HB.out.size)
  clear x0 x1 x2 x3 x4 x5 x6 H1 HB b2
  have x6 := H2.out.cell 6 rfl
  by_cases hr0 : r < 0
  · go_wp2
    go_ret
    exact ⟨-1, rfl, by omega, fun h => by omega, HB2.out⟩
  · go_wp2_with fail
    refine (kZ r _ (by omega) hr).mono ?_
    rintro e w3 ⟨rfl, rfl⟩
    by_cases hm2 : r < (m : Int)
    · rw [if_pos hm2]
      go_wp2
      go_ret
      exact ⟨-1, rfl, by omega, fun h => by omega, HB2.out⟩
    · rw [if_neg hm2]
      have h9 : ¬ r - (m : Int) < 0 := by omega
      have HQ : Hid (r - (m : Int) ≤ 1048576) := by show _ ≤ _; omega
      have HQ2 : Hid (m ≤ 1048576) := by show _ ≤ _; omega
      generalize r - (m : Int) = k at *
      go_wp2
      go_ret
      exact ⟨k, rfl, HQ.out, fun _ => ⟨hsm.out (by omega), HQ2.out⟩, HB2.out⟩
/-- A copy that the call laid: validators in a block of its own, that may be written. -/
def Cpv (w : World) (B : Nat) (a : Option Addr) (l : List V) : Prop := ∃ b, a = some ⟨b, 0, none⟩ ∧ B ≤ b ∧ (l.length = 0 ∨ b < w.heap.size) ∧ VAt w b 0 l ∧ Room w b 0 (l.length * 2)
theorem Cpv.o {w : World} {B : Nat} {a : Option Addr} {l : List V} (h : Cpv w B a l) : VO w a l := by
  obtain ⟨b, rfl, _, _, h1, _⟩ := h; exact h1.o
theorem Cpv.nn {w : World} {B : Nat} {a : Option Addr} {l : List V} (h : Cpv w B a l) : a = none → l.length = 0 := by
  obtain ⟨b, rfl, _⟩ := h
  intro e; cases e
theorem Cpv.below {w w' : World} {B : Nat} {a : Option Addr} {l : List V} (h : Cpv w B a l) (hb : Below w.heap.size w w') : Cpv w' B a l := by
  obtain ⟨b, rfl, h0, h1, h2, h3⟩ := h
  exact ⟨b, rfl, h0, h1.imp id fun h => Nat.lt_of_lt_of_le h hb.size, h2.below hb, h3.below hb⟩
theorem Cpv.set {w : World} {B g : Nat} {a : Option Addr} {l : List V} (h : Cpv w B a l) (p : Nat) (u : Value) (hg : ∀ b, a = some ⟨b, 0, none⟩ → g ≠ b) : Cpv (w.setCell ⟨g, p, none⟩ u) B a l := by
  obtain ⟨b, rfl, h0, h1, h2, h3⟩ := h
  exact ⟨b, rfl, h0, h1.imp id fun h => by simpa [World.setCell] using h, h2.other g p u (hg b rfl), h3.set g p u⟩
set_option maxHeartbeats 1600000 in
set_option maxRecDepth 100000 in
theorem to_anchor (x : H) (l : List V) (p : Option Addr) (cap : Nat) (w : World) (hl : VO w p l) (hlen : l.length ≤ 1048576) :
    Calls Tryz.prog 19 #[aV x (.slice p l.length cap)] w fun e w' => ∃ u, e = .returned (aV x (.slice u l.length l.length)) ∧ Hid (Cpv w' w.heap.size u l) ∧ Below w.heap.size w w' := by
  obtain ⟨w0, hw0⟩ : ∃ W, (((w.alloc (.cells (acs x (.slice p l.length cap)).toArray 48)).alloc (.cells [.int .i64 0, .int .i64 0, .string ⟨#[]⟩, .string ⟨#[]⟩, .string ⟨#[]⟩, .string ⟨#[]⟩, .slice none 0 0].toArray 30)).alloc (.cells [.int .i64 0, .int .i64 0, .string ⟨#[]⟩, .string ⟨#[]⟩, .string ⟨#[]⟩, .string ⟨#[]⟩, .slice none 0 0].toArray 30)) = W := ⟨_, rfl⟩
  have z1 : (w.alloc (.cells (acs x (.slice p l.length cap)).toArray 48)).heap.size = w.heap.size + 1 := by simp
  have z2 : ((w.alloc (.cells (acs x (.slice p l.length cap)).toArray 48)).alloc (.cells [.int .i64 0, .int .i64 0, .string ⟨#[]⟩, .string ⟨#[]⟩, .string ⟨#[]⟩, .string ⟨#[]⟩, .slice none 0 0].toArray 30)).heap.size = w.heap.size + 1 + 1 := by simp
  have HX : Hid (Blk w0 w.heap.size (acs x (.slice p l.length cap)) 48) := by rw [← hw0]; exact ((blk_new w _ _).alloc _).alloc _
  have HR : Hid (Blk w0 (w.heap.size + 1) [.int .i64 0, .int .i64 0, .string ⟨#[]⟩, .string ⟨#[]⟩, .string ⟨#[]⟩, .string ⟨#[]⟩, .slice none 0 0] 30) := by
    rw [← hw0]
    have h := (blk_new (w.alloc (.cells (acs x (.slice p l.length cap)).toArray 48)) [.int .i64 0, .int .i64 0, .string ⟨#[]⟩, .string ⟨#[]⟩, .string ⟨#[]⟩, .string ⟨#[]⟩, .slice none 0 0] 30).alloc (.cells [.int .i64 0, .int .i64 0, .string ⟨#[]⟩, .string ⟨#[]⟩, .string ⟨#[]⟩, .string ⟨#[]⟩, .slice none 0 0].toArray 30)
    rw [z1] at h; exact h
  have HY : Hid (Blk w0 (w.heap.size + 1 + 1) [.int .i64 0, .int .i64 0, .string ⟨#[]⟩, .string ⟨#[]⟩, .string ⟨#[]⟩, .string ⟨#[]⟩, .slice none 0 0] 30) := by
    rw [← hw0]
    have h := blk_new ((w.alloc (.cells (acs x (.slice p l.length cap)).toArray 48)).alloc (.cells [.int .i64 0, .int .i64 0, .string ⟨#[]⟩, .string ⟨#[]⟩, .string ⟨#[]⟩, .string ⟨#[]⟩, .slice none 0 0].toArray 30)) [.int .i64 0, .int .i64 0, .string ⟨#[]⟩, .string ⟨#[]⟩, .string ⟨#[]⟩, .string ⟨#[]⟩, .slice none 0 0] 30
    rw [z2] at h; exact h
  have HB : Hid (Below w.heap.size w w0) := by rw [← hw0]; exact (((Below.refl _ _).alloc (Nat.le_refl _) _).alloc (by simp) _).alloc (by simp; omega) _
  have HL : Hid (VO w p l) := hl
  have kH := fun W => to_head x W
  have kV := fun (W : World) (h : VO W p l) => toValS_any p l cap W h hlen
  clear hl z1 z2
  obtain ⟨h, t, aa, v, n, d⟩ := x
  unfold aV
  unfold hV at *
  unfold acs at *
  simp only at *
  have x0 := HX.out.cell 0 rfl
  have x1 := HX.out.cell 1 rfl
  have x2 := HX.out.cell 2 rfl
  have x3 := HX.out.cell 3 rfl
  have x4 := HX.out.cell 4 rfl
  have x5 := HX.out.cell 5 rfl
  have x6 := HX.out.cell 6 rfl
  have hB1 : w.heap.size + 1 + 1 < w0.heap.size := HY.out.lt
  go_enter Tryz.func19, Tryz.ntmps19
  go_wp2_with fail
  refine (kH _).mono ?_
  rintro e w1 ⟨rfl, b1⟩
  have HX1 := HX.out.below b1 (by omega)
  have HR1 := HR.out.below b1 (by omega)
  have HY1 := HY.out.below b1 hB1
  have HB1 := HB.out.trans (b1.mono HB.out.size)
  have hB2 : w.heap.size + 1 + 1 < w1.heap.size := Nat.lt_of_lt_of_le hB1 b1.size
  clear x0 x1 x2 x3 x4 x5 x6 b1 hw0 HX HR HY HB hB1
  have y0 := HY1.cell 0 rfl
  have y1 := HY1.cell 1 rfl
  have y2 := HY1.cell 2 rfl
  have y3 := HY1.cell 3 rfl
  have y4 := HY1.cell 4 rfl
  have y5 := HY1.cell 5 rfl
  have y6 := HY1.cell 6 rfl
  have f0 := HY1.frozen 0
  have f1 := HY1.frozen 1
  have f2 := HY1.frozen 2
  have f3 := HY1.frozen 3
  have f4 := HY1.frozen 4
  have f5 := HY1.frozen 5
  have x6 := HX1.cell 6 rfl
  obtain ⟨w2, hw2⟩ : ∃ W, ((((((w1).setCell ⟨w.heap.size + 1 + 1, 0, none⟩ (.int .i64 h)).setCell ⟨w.heap.size + 1 + 1, 1, none⟩ (.int .i64 t)).setCell ⟨w.heap.size + 1 + 1, 2, none⟩ (.string aa)).setCell ⟨w.heap.size + 1 + 1, 3, none⟩ (.string v)).setCell ⟨w.heap.size + 1 + 1, 4, none⟩ (.string n)).setCell ⟨w.heap.size + 1 + 1, 5, none⟩ (.string d) = W := ⟨_, rfl⟩
  have HY2 : Hid (Blk w2 (w.heap.size + 1 + 1) [.int .i64 h, .int .i64 t, .string aa, .string v, .string n, .string d, .slice none 0 0] 30) := by rw [← hw2]; exact ((((((HY1).set 0 _).set 1 _).set 2 _).set 3 _).set 4 _).set 5 _
  have HR2 : Hid (Blk w2 (w.heap.size + 1) [.int .i64 0, .int .i64 0, .string ⟨#[]⟩, .string ⟨#[]⟩, .string ⟨#[]⟩, .string ⟨#[]⟩, .slice none 0 0] 30) := by rw [← hw2]; exact ((((((HR1).other 0 _ (by omega)).other 1 _ (by omega)).other 2 _ (by omega)).other 3 _ (by omega)).other 4 _ (by omega)).other 5 _ (by omega)
  have HX2 : Hid (Blk w2 w.heap.size [.int .i64 h, .int .i64 t, .string aa, .string v, .string n, .string d, .slice p l.length cap] 48) := by rw [← hw2]; exact ((((((HX1).other 0 _ (by omega)).other 1 _ (by omega)).other 2 _ (by omega)).other 3 _ (by omega)).other 4 _ (by omega)).other 5 _ (by omega)
  have HB2 : Hid (Below w.heap.size w w2) := by rw [← hw2]; exact ((((((HB1).setCell (show w.heap.size ≤ w.heap.size + 1 + 1 by omega) _).setCell (show w.heap.size ≤ w.heap.size + 1 + 1 by omega) _).setCell (show w.heap.size ≤ w.heap.size + 1 + 1 by omega) _).setCell (show w.heap.size ≤ w.heap.size + 1 + 1 by omega) _).setCell (show w.heap.size ≤ w.heap.size + 1 + 1 by omega) _).setCell (show w.heap.size ≤ w.heap.size + 1 + 1 by omega) _
  have hB3 : w.heap.size + 1 + 1 < w2.heap.size := HY2.out.lt
  clear HX1 HR1 HY1 HB1
  have x7 := HX2.out.cell 6 rfl
  go_wp2_with fail
  try rw [hw2]
  refine (kV _ (HL.out.below HB2.out)).mono ?_
  rintro e w3 ⟨rfl, hv, hr, b3⟩
  clear y0 y1 y2 y3 y4 y5 y6 f0 f1 f2 f3 f4 f5 x6 x7 hw2
  have HY3 := HY2.out.below b3 hB3
  have HR3 := HR2.out.below b3 (by omega)
  have HB3 := HB2.out.trans (b3.mono HB2.out.size)
  obtain ⟨G, hG⟩ : ∃ G, w2.heap.size = G := ⟨_, rfl⟩
  rw [hG] at hv hr hB3
  have hlt : l.length = 0 ∨ G < w3.heap.size := by
    rcases Nat.eq_zero_or_pos l.length with h0 | h0
    · exact .inl h0
    · exact .inr (World.block_lt_of_cell? w3 _ (hv 0 h0).1)
  have y0 := HY3.cell 0 rfl
  have y1 := HY3.cell 1 rfl
  have y2 := HY3.cell 2 rfl
  have y3 := HY3.cell 3 rfl
  have y4 := HY3.cell 4 rfl
  have y5 := HY3.cell 5 rfl
  have y6 := HY3.cell 6 rfl
  have fy := HY3.frozen 6
  have z0 := HR3.cell 0 rfl
  have f0 := HR3.frozen 0
  have z1 := HR3.cell 1 rfl
  have f1 := HR3.frozen 1
  have z2 := HR3.cell 2 rfl
  have f2 := HR3.frozen 2
  have z3 := HR3.cell 3 rfl
  have f3 := HR3.frozen 3
  have z4 := HR3.cell 4 rfl
  have f4 := HR3.frozen 4
  have z5 := HR3.cell 5 rfl
  have f5 := HR3.frozen 5
  have z6 := HR3.cell 6 rfl
  have f6 := HR3.frozen 6
  obtain ⟨w4, hw4⟩ : ∃ W, ((((((((w3).setCell ⟨w.heap.size + 1 + 1, 6, none⟩ (.slice (some ⟨G, 0, none⟩) l.length l.length)).setCell ⟨w.heap.size + 1, 0, none⟩ (.int .i64 h)).setCell ⟨w.heap.size + 1, 1, none⟩ (.int .i64 t)).setCell ⟨w.heap.size + 1, 2, none⟩ (.string aa)).setCell ⟨w.heap.size + 1, 3, none⟩ (.string v)).setCell ⟨w.heap.size + 1, 4, none⟩ (.string n)).setCell ⟨w.heap.size + 1, 5, none⟩ (.string d)).setCell ⟨w.heap.size + 1, 6, none⟩ (.slice (some ⟨G, 0, none⟩) l.length l.length) = W := ⟨_, rfl⟩
  have HZ : Hid (Blk w4 (w.heap.size + 1) [.int .i64 h, .int .i64 t, .string aa, .string v, .string n, .string d, .slice (some ⟨G, 0, none⟩) l.length l.length] 30) := by rw [← hw4]; exact ((((((((HR3.other 6 _ (by omega))).set 0 _).set 1 _).set 2 _).set 3 _).set 4 _).set 5 _).set 6 _
  have HF : Hid (Below w.heap.size w w4) := by rw [← hw4]; exact ((((((((HB3.setCell (show w.heap.size ≤ w.heap.size + 1 + 1 by omega) _)).setCell (show w.heap.size ≤ w.heap.size + 1 by omega) _).setCell (show w.heap.size ≤ w.heap.size + 1 by omega) _).setCell (show w.heap.size ≤ w.heap.size + 1 by omega) _).setCell (show w.heap.size ≤ w.heap.size + 1 by omega) _).setCell (show w.heap.size ≤ w.heap.size + 1 by omega) _).setCell (show w.heap.size ≤ w.heap.size + 1 by omega) _).setCell (show w.heap.size ≤ w.heap.size + 1 by omega) _
  have HC : Hid (Cpv w4 w.heap.size (some ⟨G, 0, none⟩) l) := by
    rw [← hw4]
    refine ⟨G, rfl, by omega, ?_, ?_, ?_⟩
    · exact hlt.imp id fun h => by simpa [World.setCell] using h
    · exact ((((((((hv.other _ _ _ (by omega))).other _ _ _ (by omega)).other _ _ _ (by omega)).other _ _ _ (by omega)).other _ _ _ (by omega)).other _ _ _ (by omega)).other _ _ _ (by omega)).other _ _ _ (by omega)
    · exact ((((((((hr.set _ _ _)).set _ _ _).set _ _ _).set _ _ _).set _ _ _).set _ _ _).set _ _ _).set _ _ _
  have hGn1 : ¬ G = w.heap.size + 1 := by omega
  clear b3 hv hr hlt HB3 HR3 HY3
  rw [hG]
  go_wp2
  clear y0 y1 y2 y3 y4 y5 y6 fy z0 z1 z2 z3 z4 z5 z6 f0 f1 f2 f3 f4 f5 f6
  have y0 := HZ.out.cell 0 rfl
  have y1 := HZ.out.cell 1 rfl
  have y2 := HZ.out.cell 2 rfl
  have y3 := HZ.out.cell 3 rfl
  have y4 := HZ.out.cell 4 rfl
  have y5 := HZ.out.cell 5 rfl
  have y6 := HZ.out.cell 6 rfl
  refine bodyPost_ret (v := .agg #[.int .i64 h, .int .i64 t, .string aa, .string v, .string n, .string d, .slice (some ⟨G, 0, none⟩) l.length l.length]) ?_ rfl ⟨_, rfl, ?_, ?_⟩
  · try rw [hw4]
    clear HZ HF HC hw4
    simp [results, Tryz.results19, go_sem, y0, y1, y2, y3, y4, y5, y6]
  · try rw [hw4]
    exact HC
  · try rw [hw4]
    exact HF.out
set_option maxHeartbeats 1600000 in
set_option maxRecDepth 100000 in
theorem eq_anchor (x : H) (l : List V) (p p' : Option Addr) (cap cap' : Nat) (w : World) (hl : VO w p l) (hl' : VO w p' l) (h1 : l.length ≤ 1099511627776) :
    Calls Tryz.prog 23 #[aV x (.slice p l.length cap), aV x (.slice p' l.length cap')] w fun e w' => e = .returned (.bool true) ∧ Below w.heap.size w w' := by
  obtain ⟨w0, hw0⟩ : ∃ W, (w.alloc (.cells (acs x (.slice p l.length cap)).toArray 30)).alloc (.cells (acs x (.slice p' l.length cap')).toArray 30) = W := ⟨_, rfl⟩
  have HX : Hid (Blk w0 w.heap.size (acs x (.slice p l.length cap)) 30) := by rw [← hw0]; exact (blk_new w _ _).alloc _
  have HY : Hid (Blk w0 (w.heap.size + 1) (acs x (.slice p' l.length cap')) 30) := by
    rw [← hw0]
    have h := blk_new (w.alloc (.cells (acs x (.slice p l.length cap)).toArray 30)) (acs x (.slice p' l.length cap')) 30
    rw [show (w.alloc (.cells (acs x (.slice p l.length cap)).toArray 30)).heap.size = w.heap.size + 1 by simp] at h; exact h
  have HB : Hid (Below w.heap.size w w0) := by rw [← hw0]; exact below_two _ _ _
  have HL : Hid (VO w0 p l) := hl.below HB.out
  have HL' : Hid (VO w0 p' l) := hl'.below HB.out
  have kH := fun W => eq_head x W
  have kE : ∀ W, VO W p l → VO W p' l → Calls Tryz.prog 24 #[.slice p l.length cap, .slice p' l.length cap'] W fun e w' => e = .returned (.bool true) ∧ Below W.heap.size W w' := fun W a b => (eqValS_any p p' l l cap cap' W a b h1 h1).mono (fun e w' ⟨a, b⟩ => ⟨by rw [a]; simp, b⟩)
  clear hl hl'
  obtain ⟨h, t, aa, v, n, d⟩ := x
  unfold aV
  unfold hV at *
  unfold acs at *
  simp only at *
  have x0 := HX.out.cell 0 rfl
  have y0 := HY.out.cell 0 rfl
  have x1 := HX.out.cell 1 rfl
  have y1 := HY.out.cell 1 rfl
  have x2 := HX.out.cell 2 rfl
  have y2 := HY.out.cell 2 rfl
  have x3 := HX.out.cell 3 rfl
  have y3 := HY.out.cell 3 rfl
  have x4 := HX.out.cell 4 rfl
  have y4 := HY.out.cell 4 rfl
  have x5 := HX.out.cell 5 rfl
  have y5 := HY.out.cell 5 rfl
  have x6 := HX.out.cell 6 rfl
  have y6 := HY.out.cell 6 rfl
  go_enter Tryz.func23, Tryz.ntmps23
  go_wp2_with fail
  try rw [hw0]
  refine (kH _).mono ?_
  rintro e w1 ⟨rfl, b1⟩
  have HX1 := HX.out.below b1 HX.out.lt
  have HY1 := HY.out.below b1 HY.out.lt
  have HB1 := HB.out.trans (b1.mono HB.out.size)
  have HL1 : Hid (VO w1 p l) := HL.out.below b1
  have HL1' : Hid (VO w1 p' l) := HL'.out.below b1
  clear x0 x1 x2 x3 x4 x5 x6 y0 y1 y2 y3 y4 y5 y6 HX HY HB HL HL' b1 hw0
  have x6 := HX1.cell 6 rfl
  have y6 := HY1.cell 6 rfl
  go_wp2_with fail
  refine (kE _ HL1.out HL1'.out).mono ?_
  rintro e w2 ⟨rfl, b2⟩
  go_wp2
  go_ret
  exact ⟨rfl, HB1.trans (b2.mono HB1.size)⟩
end Go.Proofs.YtajfmjgaaapjeaaGreatDoor
