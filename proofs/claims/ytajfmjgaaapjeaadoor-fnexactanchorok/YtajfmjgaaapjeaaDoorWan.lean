/- The walk of the exact law of AnchorOk: it answers true, old memory stays. Conditions: what a machine can hold, the table of the hash. -/
import Derived.Test.YtajfmjgaaapjeaaDoorLa
import Derived.Deep.RegionHeld3
namespace Go.Proofs.YtajfmjgaaapjeaaDoor
open Go.RowKit
open Num
set_option linter.unusedVariables false
set_option maxHeartbeats 3200000 in
set_option maxRecDepth 100000 in
theorem w_anchor (x : H) (l : List V) (p : Option Addr) (cap : Nat) (w : World) (hl : VO w p l) (hlen : l.length ≤ 9223372036854775807) (hx : Fits x) (hT : Tab w) :
    Calls Tryd.prog 3 #[aV x (.slice p l.length cap)] w fun e w' => e = .returned (.bool true) ∧ Below w.heap.size w w' := by
  have HA0 : Hid (Blk (w.alloc (.cells (acs x (.slice p l.length cap)).toArray 26)) w.heap.size (acs x (.slice p l.length cap)) 26 ∧ Below w.heap.size w (w.alloc (.cells (acs x (.slice p l.length cap)).toArray 26))) := ⟨blk_new w _ _, below_one _ _⟩
  have hHA : ∀ W W' cs, (Blk W w.heap.size cs 26 ∧ Below w.heap.size w W) → Below W.heap.size W W' → (Blk W' w.heap.size cs 26 ∧ Below w.heap.size w W') := fun W W' cs h hb => ⟨h.1.below hb h.1.lt, h.2.trans (hb.mono h.2.size)⟩
  have HL : Hid (VO w p l) := hl
  have HT : Hid (Tab w) := hT
  have kZ := fun W => sz_anchor x p l.length cap 1048576 W hx hlen (by omega) (by omega)
  have kT := fun W (h : VO W p l) (hq : l.length ≤ 1048576) => to_anchor x l p cap W h hq
  have kE := fun (u u' : Option Addr) W (h : VO W u l) (h' : VO W u' l) (hq : l.length ≤ 1099511627776) => eq_anchor x l u u' l.length l.length W h h' hq
  have kA := fun (u : Option Addr) W (h : VO W u l) => spec_anchor x l u l.length W h hlen
  have kB := fun (u : Option Addr) W (h : VO W u l) (hT : Tab W) => impl_anchor x l u l.length W h hlen hT
  have HC : Hid (∀ W B u, Cpv W B u l → VO W u l) := fun W B u h => h.o
  generalize aOk ⟨x, l⟩ = R at *
  clear hl hT hx
  obtain ⟨h, t, aa, v, n, d⟩ := x
  unfold aV at *
  unfold acs at *
  simp only at *
  have hflat : ∀ W g q T, Blk W g [.int .i64 h, .int .i64 t, .string aa, .string v, .string n, .string d, q] T → W.cell? ⟨g, 0, none⟩ = some (.int .i64 h) ∧ W.cell? ⟨g, 1, none⟩ = some (.int .i64 t) ∧ W.cell? ⟨g, 2, none⟩ = some (.string aa) ∧ W.cell? ⟨g, 3, none⟩ = some (.string v) ∧ W.cell? ⟨g, 4, none⟩ = some (.string n) ∧ W.cell? ⟨g, 5, none⟩ = some (.string d) ∧ W.cell? ⟨g, 6, none⟩ = some (q) := fun W g q T h => ⟨h.cell 0 rfl, h.cell 1 rfl, h.cell 2 rfl, h.cell 3 rfl, h.cell 4 rfl, h.cell 5 rfl, h.cell 6 rfl⟩
  generalize l.length = m at *
  go_enter Tryd.func3, Tryd.ntmps3
  obtain ⟨w0, hw0⟩ : ∃ W, w.alloc (Obj.cells #[Value.int IntKind.i64 h, Value.int IntKind.i64 t, Value.string aa, Value.string v, Value.string n, Value.string d, Value.slice p m cap] 26) = W := ⟨_, rfl⟩
  have HA1 : Hid (Blk w0 w.heap.size [.int .i64 h, .int .i64 t, .string aa, .string v, .string n, .string d, .slice p m cap] 26 ∧ Below w.heap.size w w0) := by rw [← hw0]; exact HA0.out
  clear HA0
  obtain ⟨ax0, ax1, ax2, ax3, ax4, ax5, ax6⟩ := hflat _ _ _ _ HA1.out.1
  go_wp2_with fail
  try rw [hw0]
  refine (kZ _).mono ?_
  rintro e w1 ⟨r, rfl, hr, hq, b1⟩
  have HA2 : Hid (Blk w1 w.heap.size [.int .i64 h, .int .i64 t, .string aa, .string v, .string n, .string d, .slice p m cap] 26 ∧ Below w.heap.size w w1) := hHA _ _ _ HA1.out b1
  clear ax0 ax1 ax2 ax3 ax4 ax5 ax6 HA1 hw0 b1
  by_cases hz : r < 0
  · go_wp2
    go_ret
    exact ⟨rfl, HA2.out.2⟩
  have h20 : m ≤ 1048576 := hq.out (by omega)
  have h40 : m ≤ 1099511627776 := by omega
  clear hq hr
  obtain ⟨ax0, ax1, ax2, ax3, ax4, ax5, ax6⟩ := hflat _ _ _ _ HA2.out.1
  go_wp2_with fail
  refine (kT _ (HL.out.below HA2.out.2) h20).mono ?_
  rintro e w2 ⟨u2, rfl, HU2, b2⟩
  have HA3 : Hid (Blk w2 w.heap.size [.int .i64 h, .int .i64 t, .string aa, .string v, .string n, .string d, .slice p m cap] 26 ∧ Below w.heap.size w w2) := hHA _ _ _ HA2.out b2
  clear ax0 ax1 ax2 ax3 ax4 ax5 ax6 HA2 b2
  obtain ⟨ax0, ax1, ax2, ax3, ax4, ax5, ax6⟩ := hflat _ _ _ _ HA3.out.1
  go_wp2_with fail
  refine (kA u2 _ (HC.out _ _ _ HU2.out)).mono ?_
  rintro e w3 ⟨rfl, b3⟩
  have HA4 : Hid (Blk w3 w.heap.size [.int .i64 h, .int .i64 t, .string aa, .string v, .string n, .string d, .slice p m cap] 26 ∧ Below w.heap.size w w3) := hHA _ _ _ HA3.out b3
  clear ax0 ax1 ax2 ax3 ax4 ax5 ax6 HA3 b3 HU2
  obtain ⟨ax0, ax1, ax2, ax3, ax4, ax5, ax6⟩ := hflat _ _ _ _ HA4.out.1
  go_wp2_with fail
  refine (kT _ (HL.out.below HA4.out.2) h20).mono ?_
  rintro e w4 ⟨u4, rfl, HU4, b4⟩
  obtain ⟨w5, hw5⟩ : ∃ W, w4.alloc (Obj.cells #[Value.int IntKind.i64 h, Value.int IntKind.i64 t, Value.string aa, Value.string v, Value.string n, Value.string d, Value.slice u4 m m] 32) = W := ⟨_, rfl⟩
  obtain ⟨G, hG⟩ : ∃ G, w4.heap.size = G := ⟨_, rfl⟩
  have HB5 : Below w4.heap.size w4 w5 := by rw [← hw5]; exact below_one _ _
  have HX5 : Hid (Blk w5 G [.int .i64 h, .int .i64 t, .string aa, .string v, .string n, .string d, .slice u4 m m] 32) := by
    rw [← hw5, ← hG]
    exact blk_new w4 [.int .i64 h, .int .i64 t, .string aa, .string v, .string n, .string d, .slice u4 m m] _
  have HA5 : Hid (Blk w5 w.heap.size [.int .i64 h, .int .i64 t, .string aa, .string v, .string n, .string d, .slice p m cap] 26 ∧ Below w.heap.size w w5) := hHA _ _ _ (hHA _ _ _ HA4.out b4) HB5
  have HU5 : Hid (VO w5 u4 l) := (HC.out _ _ _ HU4.out).below HB5
  clear ax0 ax1 ax2 ax3 ax4 ax5 ax6 HA4 b4 HU4 HB5
  obtain ⟨ax0, ax1, ax2, ax3, ax4, ax5, ax6⟩ := hflat _ _ _ _ HA5.out.1
  obtain ⟨ay0, ay1, ay2, ay3, ay4, ay5, ay6⟩ := hflat _ _ _ _ HX5.out
  go_wp2_with fail
  try rw [hw5]
  try rw [hG]
  refine (kB u4 _ HU5.out (HT.out.below HA5.out.2 HT.out.pos)).mono ?_
  rintro e w6 ⟨rfl, b6⟩
  have HA6 : Hid (Blk w6 w.heap.size [.int .i64 h, .int .i64 t, .string aa, .string v, .string n, .string d, .slice p m cap] 26 ∧ Below w.heap.size w w6) := hHA _ _ _ HA5.out b6
  have HX6 : Hid (Blk w6 G [.int .i64 h, .int .i64 t, .string aa, .string v, .string n, .string d, .slice u4 m m] 32) := HX5.out.below b6 HX5.out.lt
  have HU6 : Hid (VO w6 u4 l) := HU5.out.below b6
  clear ax0 ax1 ax2 ax3 ax4 ax5 ax6 ay0 ay1 ay2 ay3 ay4 ay5 ay6 HA5 HX5 HU5 b6 hw5 hG
  have HA7 : Hid (Blk w6.drew w.heap.size [.int .i64 h, .int .i64 t, .string aa, .string v, .string n, .string d, .slice p m cap] 26 ∧ Below w.heap.size w w6.drew) := hHA _ _ _ HA6.out (Below.refl _ _).drew
  have HX7 : Hid (Blk w6.drew G [.int .i64 h, .int .i64 t, .string aa, .string v, .string n, .string d, .slice u4 m m] 32) := HX6.out
  have HU7 : Hid (VO w6.drew u4 l) := HU6.out.below (Below.refl _ _).drew
  have hR : (R != R) = false := by simp
  obtain ⟨ax0, ax1, ax2, ax3, ax4, ax5, ax6⟩ := hflat _ _ _ _ HA6.out.1
  obtain ⟨ay0, ay1, ay2, ay3, ay4, ay5, ay6⟩ := hflat _ _ _ _ HX6.out
  go_wp2_with fail
  go_region_held3 (fun W : World => (W.cell? ⟨w.heap.size, 0, none⟩ = some (.int .i64 h) ∧ W.cell? ⟨w.heap.size, 1, none⟩ = some (.int .i64 t) ∧ W.cell? ⟨w.heap.size, 2, none⟩ = some (.string aa) ∧ W.cell? ⟨w.heap.size, 3, none⟩ = some (.string v) ∧ W.cell? ⟨w.heap.size, 4, none⟩ = some (.string n) ∧ W.cell? ⟨w.heap.size, 5, none⟩ = some (.string d) ∧ W.cell? ⟨w.heap.size, 6, none⟩ = some (.slice p m cap)) ∧ (W.cell? ⟨G, 0, none⟩ = some (.int .i64 h) ∧ W.cell? ⟨G, 1, none⟩ = some (.int .i64 t) ∧ W.cell? ⟨G, 2, none⟩ = some (.string aa) ∧ W.cell? ⟨G, 3, none⟩ = some (.string v) ∧ W.cell? ⟨G, 4, none⟩ = some (.string n) ∧ W.cell? ⟨G, 5, none⟩ = some (.string d) ∧ W.cell? ⟨G, 6, none⟩ = some (.slice u4 m m))) (first | assumption | exact ⟨hflat _ _ _ _ HA9.out.1, hflat _ _ _ _ HX9.out⟩ | exact ⟨hflat _ _ _ _ HA8.out.1, hflat _ _ _ _ HX8.out⟩ | exact ⟨hflat _ _ _ _ HA7.out.1, hflat _ _ _ _ HX7.out⟩) (first | (go_at_call 6; refine (kT _ (HL.out.below HA7.out.2) h20).mono ?_; rintro e w8 ⟨u8, rfl, HV8, b8⟩; have HA8 : Hid (Blk w8 w.heap.size [.int .i64 h, .int .i64 t, .string aa, .string v, .string n, .string d, .slice p m cap] 26 ∧ Below w.heap.size w w8) := hHA _ _ _ HA7.out b8; have HX8 : Hid (Blk w8 G [.int .i64 h, .int .i64 t, .string aa, .string v, .string n, .string d, .slice u4 m m] 32) := HX7.out.below b8 HX7.out.lt; have HU8 : Hid (VO w8 u4 l) := HU7.out.below b8) | (go_at_call 8; refine (kE u4 u8 _ HU8.out (HC.out _ _ _ HV8.out) h40).mono ?_; rintro e w9 ⟨rfl, b9⟩; have HA9 : Hid (Blk w9 w.heap.size [.int .i64 h, .int .i64 t, .string aa, .string v, .string n, .string d, .slice p m cap] 26 ∧ Below w.heap.size w w9) := hHA _ _ _ HA8.out b9; have HX9 : Hid (Blk w9 G [.int .i64 h, .int .i64 t, .string aa, .string v, .string n, .string d, .slice u4 m m] 32) := HX8.out.below b9 HX8.out.lt))
  go_wp2
  go_ret
  exact ⟨rfl, HA9.out.2⟩
end Go.Proofs.YtajfmjgaaapjeaaDoor
