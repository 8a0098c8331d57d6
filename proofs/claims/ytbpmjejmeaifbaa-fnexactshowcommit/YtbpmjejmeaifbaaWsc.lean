/- The walk of the exact law of ShowCommit: it answers true, old memory stays. Conditions: what a machine can hold. -/
import Derived.Test.YtbpmjejmeaifbaaWb
import Derived.Test.YtbpmjejmeaifbaaIc
namespace Go.Proofs.Ytbpmjejmeaifbaa
open Go.RowKit
open Num
set_option linter.unusedVariables false
set_option maxHeartbeats 1600000 in
theorem w_showC (x : Ct) (a : Option Addr) (cap : Nat) (w : World) (hl : SO w a x.l) (hs : SzOk x) :
    Calls Try.prog 3 #[cV x a cap] w fun e w' => e = .returned (.bool true) ∧ Below w.heap.size w w' := by
  have HP : Hid (PS w (w.alloc (.cells (ccs x a cap).toArray 24)) x a cap) := ps_new w x a cap hl
  have kS := fun W (h : SO W a x.l) => sz_com x a cap 1048576 W h hs (by decide) (by decide)
  have kT := fun W (h : SO W a x.l) (hq : x.l.length ≤ 1048576) => to_com x a cap W h hq
  have kA := fun (u : Option Addr) W (h : SO W u x.l) => spec_showC x u x.l.length W h hs
  have kB := fun (u : Option Addr) W (h : SO W u x.l) => impl_showC x u x.l.length W h hs
  have kE := fun (u v : Option Addr) W (h : SO W u x.l) (h' : SO W v x.l) (hq : x.l.length ≤ 1099511627776) => eq_com x u v x.l.length x.l.length W h h' hq
  have HX : Hid (∀ W B u, Cop W B x u → XS (W.alloc (.cells (ccs x u x.l.length).toArray 29)) W.heap.size B x u) := fun W B u h => xs_new W B x u h
  have HM : Hid (Small x → x.l.length ≤ 1048576) := fun h => h.2.1
  have HB : Hid (∀ W g B u, XS W g B x u → Blk W g (ccs x u x.l.length) 29) := fun W g B u h => h.1
  have HQ : Hid (∀ W, PS w W x a cap → Blk W w.heap.size (ccs x a cap) 24) := fun W h => h.1
  generalize showC x = r at *
  have hbq : (r.toList == r.toList) = true := by simp
  clear hl hs
  obtain ⟨X, hX⟩ : ∃ X, x = X := ⟨_, rfl⟩
  have HE : Hid (x = X) := hX
  obtain ⟨h, rr, i, l⟩ := x
  unfold cV at *
  unfold ccs at *
  simp only at kS kT kA kB kE HX HM HB HQ HP ⊢
  clear hX
  go_enter Try.func3, Try.ntmps3
  have x0 := (HQ.out _ HP.out).cell 0 rfl
  have x1 := (HQ.out _ HP.out).cell 1 rfl
  have x2 := (HQ.out _ HP.out).cell 2 rfl
  have x3 := (HQ.out _ HP.out).cell 3 rfl
  go_wp2_with fail
  generalize w.alloc (Obj.cells #[Value.int .i64 h, Value.int .i64 rr, Value.string i, Value.slice a l.length cap] 24) = w1 at *
  refine (kS _ HP.out.2.1).mono ?_
  rintro e w2 ⟨q, rfl, hq1, HS, b2⟩
  have HP2 : Hid (PS w w2 ⟨h, rr, i, l⟩ a cap) := HP.out.below b2
  clear x0 x1 x2 x3 b2 HP
  by_cases hq : q < 0
  · go_wp2
    go_ret
    exact ⟨rfl, HP2.out.2.2⟩
  have hl20 : l.length ≤ 1048576 := HM.out (HS.out (by omega))
  have hl40 : l.length ≤ 1099511627776 := by omega
  clear HS HM
  have x0 := (HQ.out _ HP2.out).cell 0 rfl
  have x1 := (HQ.out _ HP2.out).cell 1 rfl
  have x2 := (HQ.out _ HP2.out).cell 2 rfl
  have x3 := (HQ.out _ HP2.out).cell 3 rfl
  go_wp2_with fail
  refine (kT _ HP2.out.2.1 hl20).mono ?_
  rintro e w3 ⟨u3, rfl, HC3, b3⟩
  go_wp2_with fail
  refine (kA u3 _ HC3.out.o).mono ?_
  rintro e w4 ⟨rfl, b4⟩
  have HP4 : Hid (PS w w4 ⟨h, rr, i, l⟩ a cap) := (HP2.out.below b3).below b4
  clear x0 x1 x2 x3 b3 b4 HP2 HC3
  have x0 := (HQ.out _ HP4.out).cell 0 rfl
  have x1 := (HQ.out _ HP4.out).cell 1 rfl
  have x2 := (HQ.out _ HP4.out).cell 2 rfl
  have x3 := (HQ.out _ HP4.out).cell 3 rfl
  go_wp2_with fail
  refine (kT _ HP4.out.2.1 hl20).mono ?_
  rintro e w5 ⟨u5, rfl, HC5, b5⟩
  have HX5 : Hid (XS (w5.alloc (.cells #[.int .i64 h, .int .i64 rr, .string i, .slice u5 l.length l.length] 29)) w5.heap.size w4.heap.size ⟨h, rr, i, l⟩ u5) := HX.out w5 w4.heap.size u5 HC5.out
  have HP5 : Hid (PS w (w5.alloc (.cells #[.int .i64 h, .int .i64 rr, .string i, .slice u5 l.length l.length] 29)) ⟨h, rr, i, l⟩ a cap) := (HP4.out.below b5).below (below_one _ _)
  clear x0 x1 x2 x3 b5 HP4 HC5
  have y0 := (HB.out _ _ _ _ HX5.out).cell 0 rfl
  have y1 := (HB.out _ _ _ _ HX5.out).cell 1 rfl
  have y2 := (HB.out _ _ _ _ HX5.out).cell 2 rfl
  have y3 := (HB.out _ _ _ _ HX5.out).cell 3 rfl
  go_wp2_with fail
  generalize w5.alloc (.cells #[.int .i64 h, .int .i64 rr, .string i, .slice u5 l.length l.length] 29) = w6 at *
  refine (kB u5 _ HX5.out.2.o).mono ?_
  rintro e w7 ⟨rfl, b7⟩
  have HX7 : Hid (XS w7 w5.heap.size w4.heap.size ⟨h, rr, i, l⟩ u5) := HX5.out.below b7
  have HP7 : Hid (PS w w7 ⟨h, rr, i, l⟩ a cap) := HP5.out.below b7
  have HPd : Hid (PS w w7.drew ⟨h, rr, i, l⟩ a cap) := HP7.out.below (Below.refl _ _).drew
  have HXd : Hid (XS w7.drew w5.heap.size w4.heap.size ⟨h, rr, i, l⟩ u5) := HX7.out.below (Below.refl _ _).drew
  clear y0 y1 y2 y3 b7 HX5 HP5
  have x0 := (HQ.out _ HP7.out).cell 0 rfl
  have x1 := (HQ.out _ HP7.out).cell 1 rfl
  have x2 := (HQ.out _ HP7.out).cell 2 rfl
  have x3 := (HQ.out _ HP7.out).cell 3 rfl
  have y0 := (HB.out _ _ _ _ HX7.out).cell 0 rfl
  have y1 := (HB.out _ _ _ _ HX7.out).cell 1 rfl
  have y2 := (HB.out _ _ _ _ HX7.out).cell 2 rfl
  have y3 := (HB.out _ _ _ _ HX7.out).cell 3 rfl
  go_wp2_with fail
  go_region_with (first | (go_at_call 7; refine (kT _ HPd.out.2.1 hl20).mono ?_; rintro e w8 ⟨u8, rfl, HC8, b8⟩; have HX8 : Hid (XS w8 w5.heap.size w4.heap.size ⟨h, rr, i, l⟩ u5) := HXd.out.below b8; have HP8 : Hid (PS w w8 ⟨h, rr, i, l⟩ a cap) := HPd.out.below b8; have z0 := (HB.out _ _ _ _ HX8.out).cell 0 rfl; have z1 := (HB.out _ _ _ _ HX8.out).cell 1 rfl; have z2 := (HB.out _ _ _ _ HX8.out).cell 2 rfl; have z3 := (HB.out _ _ _ _ HX8.out).cell 3 rfl) | (go_at_call 9; refine (kE u5 u8 _ HX8.out.2.o HC8.out.o hl40).mono ?_; rintro e w9 ⟨rfl, b9⟩; have HP9 : Hid (PS w w9 ⟨h, rr, i, l⟩ a cap) := HP8.out.below b9))
  all_goals
    clear x0 x1 x2 x3 y0 y1 y2 y3 z0 z1 z2 z3
    go_wp2
    go_ret
    exact ⟨rfl, HP9.out.2.2⟩
end Go.Proofs.Ytbpmjejmeaifbaa
