/- What the laws' helper szHeader leaves of any bound, as far as the walks ask. Conditions: texts that a machine can hold. What the laws' walks of chapter 9 keep: the argument's block, a copy's block. Conditions: none of ours. The walk of the exact law of CommitOk: it answers true, old memory stays. Conditions: what a machine can hold, the table. -/
import Derived.Test.YtbpmjejmeaifbaaGreatDoorHl
import Derived.Test.YtbpmjejmeaifbaaGreatDoorLc
import Derived.Test.YtbpmjejmeaifbaaGreatDoorCok
import Derived.Test.YtbpmjejmeaifbaaGreatDoorGA
namespace Go.Proofs.YtbpmjejmeaifbaaGreatDoor
open Go.RowKit
open Num
set_option linter.unusedVariables false
set_option maxHeartbeats 800000 in
set_option maxRecDepth 100000 in
theorem sz_headL (x : H) (left : Int) (w : World) (hx : Fits x) (h0 : 0 ≤ left) (h1 : left ≤ 1048576) :
    Calls Tryz.prog 15 #[hV x, .int .i64 left] w fun e w' => ∃ r : Int, e = .returned (.int .i64 r) ∧ r ≤ 1048576 ∧ Below w.heap.size w w' := by
  obtain ⟨c0, c1, c2, c3, c4, c5⟩ := six_laws w x
  obtain ⟨h, t, a, v, n, d⟩ := x
  obtain ⟨q1, q2, q3, q4⟩ := hx
  unfold maxLen at q1 q2 q3 q4
  unfold hV
  unfold hcs at *
  simp only at *
  obtain ⟨A, hA⟩ : ∃ A : Int, (a.size : Int) = A := ⟨_, rfl⟩
  have a0 : 0 ≤ A := by omega
  have a1 : A ≤ 9223372036854775807 := by omega
  obtain ⟨B, hB⟩ : ∃ B : Int, (v.size : Int) = B := ⟨_, rfl⟩
  have b0 : 0 ≤ B := by omega
  have b1 : B ≤ 9223372036854775807 := by omega
  obtain ⟨C, hC⟩ : ∃ C : Int, (n.size : Int) = C := ⟨_, rfl⟩
  have e0 : 0 ≤ C := by omega
  have e1 : C ≤ 9223372036854775807 := by omega
  obtain ⟨D, hD⟩ : ∃ D : Int, (d.size : Int) = D := ⟨_, rfl⟩
  have d0 : 0 ≤ D := by omega
  have d1 : D ≤ 9223372036854775807 := by omega
  by_cases g1 : left - A < 0
  · go_enter Tryz.func15, Tryz.ntmps15
    go_wp2
    go_ret
    exact ⟨-1, rfl, by omega, (Below.refl _ _).alloc (Nat.le_refl _) _⟩
  by_cases g2 : left - A - B < 0
  · go_enter Tryz.func15, Tryz.ntmps15
    go_wp2
    go_ret
    exact ⟨-1, rfl, by omega, (Below.refl _ _).alloc (Nat.le_refl _) _⟩
  by_cases g3 : left - A - B - C < 0
  · go_enter Tryz.func15, Tryz.ntmps15
    go_wp2
    go_ret
    exact ⟨-1, rfl, by omega, (Below.refl _ _).alloc (Nat.le_refl _) _⟩
  by_cases g4 : left - A - B - C - D < 0
  · go_enter Tryz.func15, Tryz.ntmps15
    go_wp2
    go_ret
    exact ⟨-1, rfl, by omega, (Below.refl _ _).alloc (Nat.le_refl _) _⟩
  · go_enter Tryz.func15, Tryz.ntmps15
    go_wp2
    go_ret
    exact ⟨left - A - B - C - D, rfl, by omega, (Below.refl _ _).alloc (Nat.le_refl _) _⟩
end Go.Proofs.YtbpmjejmeaifbaaGreatDoor
namespace Go.Proofs.YtbpmjejmeaifbaaGreatDoor
open Go.RowKit
open Num
set_option linter.unusedVariables false
/-- The argument lies in its block as it came; old memory stands. -/
def PS (w W : World) (x : Ct) (a : Option Addr) (cap : Nat) : Prop := Blk W w.heap.size (ccs x a cap) 42 ∧ SO W a x.l ∧ Below w.heap.size w W
theorem PS.below {w W W' : World} {x : Ct} {a : Option Addr} {cap : Nat} (h : PS w W x a cap) (hb : Below W.heap.size W W') : PS w W' x a cap :=
  ⟨h.1.below hb h.1.lt, h.2.1.below hb, h.2.2.trans (hb.mono h.2.2.size)⟩
theorem ps_new (w : World) (x : Ct) (a : Option Addr) (cap : Nat) (h : SO w a x.l) : PS w (w.alloc (.cells (ccs x a cap).toArray 42)) x a cap :=
  ⟨blk_new w _ _, h.below (below_one _ _), below_one _ _⟩
/-- A copy lies in block g. -/
def XS (W : World) (g B : Nat) (x : Ct) (a : Option Addr) : Prop := Blk W g (ccs x a x.l.length) 29 ∧ Cop W B x a
theorem XS.below {W W' : World} {g B : Nat} {x : Ct} {a : Option Addr} (h : XS W g B x a) (hb : Below W.heap.size W W') : XS W' g B x a :=
  ⟨h.1.below hb h.1.lt, h.2.below hb⟩
theorem xs_new (W : World) (B : Nat) (x : Ct) (a : Option Addr) (h : Cop W B x a) : XS (W.alloc (.cells (ccs x a x.l.length).toArray 29)) W.heap.size B x a :=
  ⟨blk_new W _ _, h.below (below_one _ _)⟩
end Go.Proofs.YtbpmjejmeaifbaaGreatDoor
namespace Go.Proofs.YtbpmjejmeaifbaaGreatDoor
open Go.RowKit
open Num
set_option linter.unusedVariables false
/-- The header and the commit lie in their blocks as they came; old memory stands. -/
def HA (w W : World) (x : H) (c : Ct) (a : Option Addr) (cap : Nat) : Prop := Six W w.heap.size x ∧ Blk W (w.heap.size + 1) (ccs c a cap) 42 ∧ Below w.heap.size w W
theorem HA.below {w W W' : World} {x : H} {c : Ct} {a : Option Addr} {cap : Nat} (h : HA w W x c a cap) (hb : Below W.heap.size W W') : HA w W' x c a cap :=
  ⟨h.1.below hb h.1.lt, h.2.1.below hb h.2.1.lt, h.2.2.trans (hb.mono h.2.2.size)⟩
theorem ha_new (w : World) (x : H) (c : Ct) (a : Option Addr) (cap : Nat) : HA w ((w.alloc (.cells (hcs x) 39)).alloc (.cells (ccs c a cap).toArray 42)) x c a cap := by
  refine ⟨?_, ?_, below_two _ _ _⟩
  · have h1 := six_new w x 39
    exact h1.below (below_one _ _) h1.lt
  · have h1 := blk_new (w.alloc (.cells (hcs x) 39)) (ccs c a cap) 42
    have e : (w.alloc (.cells (hcs x) 39)).heap.size = w.heap.size + 1 := by simp
    rw [e] at h1; exact h1
theorem HA.flat {w W : World} {x : H} {c : Ct} {a : Option Addr} {cap : Nat} (h : HA w W x c a cap) : W.cell? ⟨w.heap.size, 0, none⟩ = some (.int .i64 x.h) ∧ W.cell? ⟨w.heap.size, 1, none⟩ = some (.int .i64 x.t) ∧ W.cell? ⟨w.heap.size, 2, none⟩ = some (.string x.a) ∧ W.cell? ⟨w.heap.size, 3, none⟩ = some (.string x.v) ∧ W.cell? ⟨w.heap.size, 4, none⟩ = some (.string x.n) ∧ W.cell? ⟨w.heap.size, 5, none⟩ = some (.string x.d) ∧
    W.cell? ⟨w.heap.size + 1, 0, none⟩ = some (.int .i64 c.h) ∧ W.cell? ⟨w.heap.size + 1, 1, none⟩ = some (.int .i64 c.r) ∧ W.cell? ⟨w.heap.size + 1, 2, none⟩ = some (.string c.i) ∧ W.cell? ⟨w.heap.size + 1, 3, none⟩ = some (.slice a c.l.length cap) :=
  ⟨h.1.1, h.1.2.1, h.1.2.2.1, h.1.2.2.2.1, h.1.2.2.2.2.1, h.1.2.2.2.2.2, h.2.1.cell 0 rfl, h.2.1.cell 1 rfl, h.2.1.cell 2 rfl, h.2.1.cell 3 rfl⟩
theorem XS.flat {W : World} {g B : Nat} {x : Ct} {a : Option Addr} (h : XS W g B x a) : W.cell? ⟨g, 0, none⟩ = some (.int .i64 x.h) ∧ W.cell? ⟨g, 1, none⟩ = some (.int .i64 x.r) ∧ W.cell? ⟨g, 2, none⟩ = some (.string x.i) ∧ W.cell? ⟨g, 3, none⟩ = some (.slice a x.l.length x.l.length) :=
  ⟨h.1.cell 0 rfl, h.1.cell 1 rfl, h.1.cell 2 rfl, h.1.cell 3 rfl⟩
set_option maxHeartbeats 3200000 in
set_option maxRecDepth 100000 in
theorem w_comok (l : List V) (b : Option Addr) (cb : Nat) (x : H) (c : Ct) (a : Option Addr) (cap : Nat) (w : World) (hv : VO w b l) (hvl : l.length ≤ 9223372036854775807) (hx : Fits x) (hl : SO w a c.l) (hs : SzOk c) (hT : Tab w) :
    Calls Tryz.prog 4 #[.slice b l.length cb, hV x, cV c a cap] w fun e w' => e = .returned (.bool true) ∧ Below w.heap.size w w' := by
  have HA0 : Hid (HA w ((w.alloc (.cells (hcs x) 39)).alloc (.cells (ccs c a cap).toArray 42)) x c a cap) := ha_new w x c a cap
  have HVO : Hid (VO w b l) := hv
  have HL : Hid (SO w a c.l) := hl
  have HT : Hid (Tab w) := hT
  have kZ := fun W => sz_any b l.length cb 1048576 W hvl (by decide) (by decide)
  have kH := fun (r : Int) W (h0 : 0 ≤ r) (h1 : r ≤ 1048576) => sz_headL x r W hx h0 h1
  have kS := fun (r : Int) W (h : SO W a c.l) (h0 : 0 ≤ r) (h1 : r ≤ 1048576) => sz_com c a cap r W h hs h0 h1
  have kTH := fun W => to_head x W
  have kTC := fun W (h : SO W a c.l) (hq : c.l.length ≤ 1048576) => to_com c a cap W h hq
  have kTV : ∀ W, VO W b l → l.length ≤ 1048576 → Calls Tryz.prog 17 #[.slice b l.length cb] W fun e w' => ∃ u, e = .returned (.slice u l.length l.length) ∧ Hid (VO w' u l) ∧ Below W.heap.size W w' := fun W h hq => (toValS_any b l cb W h hq).mono (fun e w' ⟨h1, h2, _, h4⟩ => ⟨_, h1, h2.o, h4⟩)
  have kEV : ∀ (u u' : Option Addr) W, VO W u l → VO W u' l → l.length ≤ 1099511627776 → Calls Tryz.prog 20 #[.slice u l.length l.length, .slice u' l.length l.length] W fun e w' => e = .returned (.bool true) ∧ Below W.heap.size W w' := fun u u' W h h' hq => (eqValS_any u u' l l l.length l.length W h h' hq hq).mono (fun e w' ⟨h1, h2⟩ => ⟨by rw [h1]; simp, h2⟩)
  have kEC := fun (u u' : Option Addr) W (h : SO W u c.l) (h' : SO W u' c.l) (hq : c.l.length ≤ 1099511627776) => eq_com c u u' c.l.length c.l.length W h h' hq
  have kA := fun (u u' : Option Addr) W (h : VO W u l) (h' : SO W u' c.l) => spec_comok l u l.length x c u' c.l.length W h hvl h' hs.2.1
  have kB := fun (u u' : Option Addr) W (h : VO W u l) (h' : SO W u' c.l) (hT : Tab W) => impl_comok l u l.length x c u' c.l.length W h hvl h' hs.2.1 hT
  have HM : Hid (Small c → c.l.length ≤ 1048576) := fun h => h.2.1
  have HXn : Hid (∀ W B u, Cop W B c u → XS (W.alloc (.cells (ccs c u c.l.length).toArray 29)) W.heap.size B c u) := fun W B u h => xs_new W B c u h
  generalize comOk l x c = R at *
  clear hv hl hT hx hs
  obtain ⟨h, t, aa, v, nn, d⟩ := x
  obtain ⟨ch, cr, ci, cl⟩ := c
  unfold cV hV at *
  unfold hcs at HA0
  unfold ccs at HA0 HXn
  simp only at HA0 HL kH kS kTH kTC kEC kA kB HM HXn ⊢
  have HAS : Hid (∀ W, HA w W ⟨h, t, aa, v, nn, d⟩ ⟨ch, cr, ci, cl⟩ a cap → W.cell? ⟨w.heap.size, 0, none⟩ = some (.int .i64 h) ∧ W.cell? ⟨w.heap.size, 1, none⟩ = some (.int .i64 t) ∧ W.cell? ⟨w.heap.size, 2, none⟩ = some (.string aa) ∧ W.cell? ⟨w.heap.size, 3, none⟩ = some (.string v) ∧ W.cell? ⟨w.heap.size, 4, none⟩ = some (.string nn) ∧ W.cell? ⟨w.heap.size, 5, none⟩ = some (.string d) ∧ W.cell? ⟨w.heap.size + 1, 0, none⟩ = some (.int .i64 ch) ∧ W.cell? ⟨w.heap.size + 1, 1, none⟩ = some (.int .i64 cr) ∧ W.cell? ⟨w.heap.size + 1, 2, none⟩ = some (.string ci) ∧ W.cell? ⟨w.heap.size + 1, 3, none⟩ = some (.slice a cl.length cap)) := fun W h => h.flat
  have HXS : Hid (∀ W G B U, XS W G B ⟨ch, cr, ci, cl⟩ U → W.cell? ⟨G, 0, none⟩ = some (.int .i64 ch) ∧ W.cell? ⟨G, 1, none⟩ = some (.int .i64 cr) ∧ W.cell? ⟨G, 2, none⟩ = some (.string ci) ∧ W.cell? ⟨G, 3, none⟩ = some (.slice U cl.length cl.length)) := fun W G B U h => h.flat
  by_cases hn : (1048576 : Int) < (l.length : Int)
  · rw [if_pos hn] at kZ
    go_enter Tryz.func4, Tryz.ntmps4
    go_wp2_with fail
    refine (kZ _).mono ?_
    rintro e w1 ⟨rfl, rfl⟩
    go_wp2
    go_ret
    exact ⟨rfl, HA0.out.2.2⟩
  rw [if_neg hn] at kZ
  have hq : l.length ≤ 1048576 := by omega
  have hq4 : l.length ≤ 1099511627776 := by omega
  have HK : Hid (0 ≤ 1048576 - (l.length : Int) ∧ 1048576 - (l.length : Int) ≤ 1048576) := ⟨by omega, by omega⟩
  generalize 1048576 - (l.length : Int) = K at *
  have k0 : 0 ≤ K := HK.out.1
  have k1 : ¬ K < 0 := by omega
  clear hn
  generalize l.length = n at *
  go_enter Tryz.func4, Tryz.ntmps4
  go_wp2_with fail
  refine (kZ _).mono ?_
  rintro e w1 ⟨rfl, rfl⟩
  generalize (w.alloc (Obj.cells #[.int .i64 h, .int .i64 t, .string aa, .string v, .string nn, .string d] 39)).alloc (Obj.cells #[.int .i64 ch, .int .i64 cr, .string ci, .slice a cl.length cap] 42) = w0 at *
  obtain ⟨ax0, ax1, ax2, ax3, ax4, ax5, ay0, ay1, ay2, ay3⟩ := HAS.out _ HA0.out
  go_wp2_with fail
  refine (kH K _ k0 HK.out.2).mono ?_
  rintro e w2 ⟨r2, rfl, hr2, b2⟩
  have HA2 : Hid (HA w w2 ⟨h, t, aa, v, nn, d⟩ ⟨ch, cr, ci, cl⟩ a cap) := HA0.out.below b2
  clear ax0 ax1 ax2 ax3 ax4 ax5 ay0 ay1 ay2 ay3 b2 HA0
  by_cases hz2 : r2 < 0
  · go_wp2
    go_ret
    exact ⟨rfl, HA2.out.2.2⟩
  obtain ⟨ax0, ax1, ax2, ax3, ax4, ax5, ay0, ay1, ay2, ay3⟩ := HAS.out _ HA2.out
  go_wp2_with fail
  refine (kS r2 _ (HL.out.below HA2.out.2.2) (by omega) hr2).mono ?_
  rintro e w3 ⟨r3, rfl, hr3, HSm, b3⟩
  have HA3 : Hid (HA w w3 ⟨h, t, aa, v, nn, d⟩ ⟨ch, cr, ci, cl⟩ a cap) := HA2.out.below b3
  clear ax0 ax1 ax2 ax3 ax4 ax5 ay0 ay1 ay2 ay3 b3 HA2
  by_cases hz3 : r3 < 0
  · go_wp2
    go_ret
    exact ⟨rfl, HA3.out.2.2⟩
  have hc20 : cl.length ≤ 1048576 := HM.out (HSm.out (by omega))
  have hc40 : cl.length ≤ 1099511627776 := by omega
  clear HSm HM kS kH kZ hr2 hr3
  have HAd : Hid (HA w w3.drew ⟨h, t, aa, v, nn, d⟩ ⟨ch, cr, ci, cl⟩ a cap) := HA3.out.below (Below.refl _ _).drew
  obtain ⟨ax0, ax1, ax2, ax3, ax4, ax5, ay0, ay1, ay2, ay3⟩ := HAS.out _ HA3.out
  go_wp2_with fail
  go_region_held3 (fun W : World => W.cell? ⟨w.heap.size, 0, none⟩ = some (.int .i64 h) ∧ W.cell? ⟨w.heap.size, 1, none⟩ = some (.int .i64 t) ∧ W.cell? ⟨w.heap.size, 2, none⟩ = some (.string aa) ∧ W.cell? ⟨w.heap.size, 3, none⟩ = some (.string v) ∧ W.cell? ⟨w.heap.size, 4, none⟩ = some (.string nn) ∧ W.cell? ⟨w.heap.size, 5, none⟩ = some (.string d) ∧ W.cell? ⟨w.heap.size + 1, 0, none⟩ = some (.int .i64 ch) ∧ W.cell? ⟨w.heap.size + 1, 1, none⟩ = some (.int .i64 cr) ∧ W.cell? ⟨w.heap.size + 1, 2, none⟩ = some (.string ci) ∧ W.cell? ⟨w.heap.size + 1, 3, none⟩ = some (.slice a cl.length cap)) (first | assumption | exact HAS.out _ HA7.out | exact HAS.out _ HA6.out | exact HAS.out _ HA5.out | exact HAS.out _ HA4.out | exact HAS.out _ HAd.out) (first | (go_at_call 17; refine (kTV _ (HVO.out.below HAd.out.2.2) hq).mono ?_; rintro e w4 ⟨u4, rfl, HV4, b4⟩; have HA4 : Hid (HA w w4 ⟨h, t, aa, v, nn, d⟩ ⟨ch, cr, ci, cl⟩ a cap) := HAd.out.below b4) | (go_at_call 18; refine (kTH _).mono ?_; rintro e w5 ⟨rfl, b5⟩; have HA5 : Hid (HA w w5 ⟨h, t, aa, v, nn, d⟩ ⟨ch, cr, ci, cl⟩ a cap) := HA4.out.below b5; have HV5 : Hid (VO w5 u4 l) := HV4.out.below b5) | (go_at_call 19; refine (kTC _ (HL.out.below HA5.out.2.2) hc20).mono ?_; rintro e w6 ⟨u6, rfl, HC6, b6⟩; have HA6 : Hid (HA w w6 ⟨h, t, aa, v, nn, d⟩ ⟨ch, cr, ci, cl⟩ a cap) := HA5.out.below b6; have HV6 : Hid (VO w6 u4 l) := HV5.out.below b6) | (go_at_call 11; refine (kA u4 u6 _ HV6.out HC6.out.o).mono ?_; rintro e w7 ⟨rfl, b7⟩; have HA7 : Hid (HA w w7 ⟨h, t, aa, v, nn, d⟩ ⟨ch, cr, ci, cl⟩ a cap) := HA6.out.below b7))
  clear ax0 ax1 ax2 ax3 ax4 ax5 ay0 ay1 ay2 ay3 b4 b5 b6 b7 HA3 HAd HA4 HA5 HA6 HV4 HV5 HV6 HC6
  go_wp2_with fail
  refine (kTV _ (HVO.out.below HA7.out.2.2) hq).mono ?_
  rintro e w8 ⟨u8, rfl, HV8, b8⟩
  have HA8 : Hid (HA w w8 ⟨h, t, aa, v, nn, d⟩ ⟨ch, cr, ci, cl⟩ a cap) := HA7.out.below b8
  clear b8 HA7
  obtain ⟨ax0, ax1, ax2, ax3, ax4, ax5, ay0, ay1, ay2, ay3⟩ := HAS.out _ HA8.out
  go_wp2_with fail
  refine (kTC _ (HL.out.below HA8.out.2.2) hc20).mono ?_
  rintro e w9 ⟨u9, rfl, HC9, b9⟩
  have HX9 : Hid (XS (w9.alloc (.cells #[.int .i64 ch, .int .i64 cr, .string ci, .slice u9 cl.length cl.length] 29)) w9.heap.size w8.heap.size ⟨ch, cr, ci, cl⟩ u9) := HXn.out w9 w8.heap.size u9 HC9.out
  have HA9 : Hid (HA w (w9.alloc (.cells #[.int .i64 ch, .int .i64 cr, .string ci, .slice u9 cl.length cl.length] 29)) ⟨h, t, aa, v, nn, d⟩ ⟨ch, cr, ci, cl⟩ a cap) := (HA8.out.below b9).below (below_one _ _)
  have HV9 : Hid (VO (w9.alloc (.cells #[.int .i64 ch, .int .i64 cr, .string ci, .slice u9 cl.length cl.length] 29)) u8 l) := (HV8.out.below b9).below (below_one _ _)
  clear ax0 ax1 ax2 ax3 ax4 ax5 ay0 ay1 ay2 ay3 b9 HA8 HV8 HC9
  obtain ⟨G, hG⟩ : ∃ G, w9.heap.size = G := ⟨_, rfl⟩
  obtain ⟨B, hB⟩ : ∃ B, w8.heap.size = B := ⟨_, rfl⟩
  rw [hB] at HX9
  have HG : Hid (w9.heap.size = G) := hG
  clear hB
  go_wp2_with fail
  rw [hG] at *
  clear hG HG
  generalize w9.alloc (.cells #[.int .i64 ch, .int .i64 cr, .string ci, .slice u9 cl.length cl.length] 29) = w10 at *
  have HAe : Hid (HA w w10.drew ⟨h, t, aa, v, nn, d⟩ ⟨ch, cr, ci, cl⟩ a cap) := HA9.out.below (Below.refl _ _).drew
  have HXe : Hid (XS w10.drew G B ⟨ch, cr, ci, cl⟩ u9) := HX9.out.below (Below.refl _ _).drew
  have HVe : Hid (VO w10.drew u8 l) := HV9.out.below (Below.refl _ _).drew
  go_region_held3 (fun W : World => (W.cell? ⟨w.heap.size, 0, none⟩ = some (.int .i64 h) ∧ W.cell? ⟨w.heap.size, 1, none⟩ = some (.int .i64 t) ∧ W.cell? ⟨w.heap.size, 2, none⟩ = some (.string aa) ∧ W.cell? ⟨w.heap.size, 3, none⟩ = some (.string v) ∧ W.cell? ⟨w.heap.size, 4, none⟩ = some (.string nn) ∧ W.cell? ⟨w.heap.size, 5, none⟩ = some (.string d) ∧ W.cell? ⟨w.heap.size + 1, 0, none⟩ = some (.int .i64 ch) ∧ W.cell? ⟨w.heap.size + 1, 1, none⟩ = some (.int .i64 cr) ∧ W.cell? ⟨w.heap.size + 1, 2, none⟩ = some (.string ci) ∧ W.cell? ⟨w.heap.size + 1, 3, none⟩ = some (.slice a cl.length cap)) ∧ (W.cell? ⟨G, 0, none⟩ = some (.int .i64 ch) ∧ W.cell? ⟨G, 1, none⟩ = some (.int .i64 cr) ∧ W.cell? ⟨G, 2, none⟩ = some (.string ci) ∧ W.cell? ⟨G, 3, none⟩ = some (.slice u9 cl.length cl.length))) (first | assumption | exact ⟨HAS.out _ HA12.out, HXS.out _ _ _ _ HX12.out⟩ | exact ⟨HAS.out _ HA11.out, HXS.out _ _ _ _ HX11.out⟩ | exact ⟨HAS.out _ HAe.out, HXS.out _ _ _ _ HXe.out⟩) (first | (go_at_call 18; refine (kTH _).mono ?_; rintro e w11 ⟨rfl, b11⟩; have HA11 : Hid (HA w w11 ⟨h, t, aa, v, nn, d⟩ ⟨ch, cr, ci, cl⟩ a cap) := HAe.out.below b11; have HX11 : Hid (XS w11 G B ⟨ch, cr, ci, cl⟩ u9) := HXe.out.below b11; have HV11 : Hid (VO w11 u8 l) := HVe.out.below b11) | (go_at_call 8; refine (kB u8 u9 _ HV11.out HX11.out.2.o (HT.out.below HA11.out.2.2 HT.out.pos)).mono ?_; rintro e w12 ⟨rfl, b12⟩; have HA12 : Hid (HA w w12 ⟨h, t, aa, v, nn, d⟩ ⟨ch, cr, ci, cl⟩ a cap) := HA11.out.below b12; have HX12 : Hid (XS w12 G B ⟨ch, cr, ci, cl⟩ u9) := HX11.out.below b12; have HV12 : Hid (VO w12 u8 l) := HV11.out.below b12))
  clear b11 b12 HAe HXe HVe HA9 HX9 HV9 HA11 HX11 HV11
  have hR : (R != R) = false := by simp
  go_wp2_with fail
  refine (kTV _ (HVO.out.below HA12.out.2.2) hq).mono ?_
  rintro e w13 ⟨u13, rfl, HV13, b13⟩
  have HA13 : Hid (HA w w13 ⟨h, t, aa, v, nn, d⟩ ⟨ch, cr, ci, cl⟩ a cap) := HA12.out.below b13
  have HX13 : Hid (XS w13 G B ⟨ch, cr, ci, cl⟩ u9) := HX12.out.below b13
  have HW13 : Hid (VO w13 u8 l) := HV12.out.below b13
  clear b13 HA12 HX12 HV12
  go_wp2_with fail
  refine (kEV u8 u13 _ HW13.out HV13.out hq4).mono ?_
  rintro e w14 ⟨rfl, b14⟩
  have HA14 : Hid (HA w w14 ⟨h, t, aa, v, nn, d⟩ ⟨ch, cr, ci, cl⟩ a cap) := HA13.out.below b14
  have HX14 : Hid (XS w14 G B ⟨ch, cr, ci, cl⟩ u9) := HX13.out.below b14
  clear b14 HA13 HX13 HW13 HV13
  have HAf : Hid (HA w w14.drew ⟨h, t, aa, v, nn, d⟩ ⟨ch, cr, ci, cl⟩ a cap) := HA14.out.below (Below.refl _ _).drew
  have HXf : Hid (XS w14.drew G B ⟨ch, cr, ci, cl⟩ u9) := HX14.out.below (Below.refl _ _).drew
  go_wp2_with fail
  go_region_held3 (fun W : World => (W.cell? ⟨w.heap.size, 0, none⟩ = some (.int .i64 h) ∧ W.cell? ⟨w.heap.size, 1, none⟩ = some (.int .i64 t) ∧ W.cell? ⟨w.heap.size, 2, none⟩ = some (.string aa) ∧ W.cell? ⟨w.heap.size, 3, none⟩ = some (.string v) ∧ W.cell? ⟨w.heap.size, 4, none⟩ = some (.string nn) ∧ W.cell? ⟨w.heap.size, 5, none⟩ = some (.string d) ∧ W.cell? ⟨w.heap.size + 1, 0, none⟩ = some (.int .i64 ch) ∧ W.cell? ⟨w.heap.size + 1, 1, none⟩ = some (.int .i64 cr) ∧ W.cell? ⟨w.heap.size + 1, 2, none⟩ = some (.string ci) ∧ W.cell? ⟨w.heap.size + 1, 3, none⟩ = some (.slice a cl.length cap)) ∧ (W.cell? ⟨G, 0, none⟩ = some (.int .i64 ch) ∧ W.cell? ⟨G, 1, none⟩ = some (.int .i64 cr) ∧ W.cell? ⟨G, 2, none⟩ = some (.string ci) ∧ W.cell? ⟨G, 3, none⟩ = some (.slice u9 cl.length cl.length))) (first | assumption | exact ⟨HAS.out _ HA16.out, HXS.out _ _ _ _ HX16.out⟩ | exact ⟨HAS.out _ HA15.out, HXS.out _ _ _ _ HX15.out⟩ | exact ⟨HAS.out _ HAf.out, HXS.out _ _ _ _ HXf.out⟩) (first | (go_at_call 19; refine (kTC _ (HL.out.below HAf.out.2.2) hc20).mono ?_; rintro e w15 ⟨u15, rfl, HC15, b15⟩; have HA15 : Hid (HA w w15 ⟨h, t, aa, v, nn, d⟩ ⟨ch, cr, ci, cl⟩ a cap) := HAf.out.below b15; have HX15 : Hid (XS w15 G B ⟨ch, cr, ci, cl⟩ u9) := HXf.out.below b15) | (go_at_call 21; refine (kEC u9 u15 _ HX15.out.2.o HC15.out.o hc40).mono ?_; rintro e w16 ⟨rfl, b16⟩; have HA16 : Hid (HA w w16 ⟨h, t, aa, v, nn, d⟩ ⟨ch, cr, ci, cl⟩ a cap) := HA15.out.below b16; have HX16 : Hid (XS w16 G B ⟨ch, cr, ci, cl⟩ u9) := HX15.out.below b16))
  go_wp2
  go_ret
  exact ⟨rfl, HA16.out.2.2⟩
end Go.Proofs.YtbpmjejmeaifbaaGreatDoor
