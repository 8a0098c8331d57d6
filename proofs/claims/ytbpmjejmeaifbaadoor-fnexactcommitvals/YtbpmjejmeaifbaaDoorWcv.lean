/- The walk of the exact law of CommitVals: it answers true, old memory stays. Conditions: what a machine can hold, the table. -/
import Derived.Test.YtbpmjejmeaifbaaDoorWb
import Derived.Test.YtbpmjejmeaifbaaDoorLj
import Derived.Test.YtbpmjejmeaifbaaDoorCk
namespace Go.Proofs.YtbpmjejmeaifbaaDoor
open Go.RowKit
open Num
set_option linter.unusedVariables false
/-- The argument lies in its block as it came; old memory stands. -/
def PT (w W : World) (x : Ct) (a : Option Addr) (cap : Nat) : Prop := Blk W w.heap.size (ccs x a cap) 41 ∧ Below w.heap.size w W
theorem PT.below {w W W' : World} {x : Ct} {a : Option Addr} {cap : Nat} (h : PT w W x a cap) (hb : Below W.heap.size W W') : PT w W' x a cap :=
  ⟨h.1.below hb h.1.lt, h.2.trans (hb.mono h.2.size)⟩
theorem PT.far {w W W' : World} {x : Ct} {a : Option Addr} {cap : Nat} {r : Option Nat} (h : PT w W x a cap) (hg : W.grownBy W' r) (hr : ∀ j, r = some j → w.heap.size < j) : PT w W' x a cap :=
  ⟨h.1.grown hg (fun e => by have := hr _ e; omega), h.2.grown hg h.2.size (fun j e => by have := hr j e; omega)⟩
theorem PT.so {w W : World} {x : Ct} {a : Option Addr} {cap : Nat} {l : List Sg} (h : PT w W x a cap) (hl : SO w a l) : SO W a l := hl.below h.2
theorem XS.far {W W' : World} {g B : Nat} {x : Ct} {a : Option Addr} {r : Option Nat} (h : XS W g B x a) (hg : W.grownBy W' r) (hr : ∀ j, r = some j → j < g) : Blk W' g (ccs x a x.l.length) 33 :=
  h.1.grown hg (fun e => by have := hr _ e; omega)
set_option maxHeartbeats 3200000 in
set_option maxRecDepth 100000 in
theorem w_cv (x : Ct) (a : Option Addr) (cap : Nat) (w : World) (hl : SO w a x.l) (hs : SzOk x) (hT : Tab w) :
    Calls Tryd.prog 4 #[cV x a cap] w fun e w' => e = .returned (.bool true) ∧ Below w.heap.size w w' := by
  have HT : Hid (Tab w) := hT
  have HL : Hid (SO w a x.l) := hl
  have HP : Hid (PT w (w.alloc (.cells (ccs x a cap).toArray 41)) x a cap) := ⟨blk_new w _ _, below_one _ _⟩
  have kS := fun W (h : SO W a x.l) => sz_com x a cap 1048576 W h hs (by decide) (by decide)
  have kT := fun W (h : SO W a x.l) (hq : x.l.length ≤ 1048576) => to_com x a cap W h hq
  have kA := fun (u : Option Addr) W (h : SO W u x.l) => spec_cv x u x.l.length W h hs.2.1
  have kB := fun (u : Option Addr) W (h : SO W u x.l) (hT : Tab W) => impl_cv x u x.l.length W h hs.2.1 hT
  have kE := fun (u v : Option Addr) W (h : SO W u x.l) (h' : SO W v x.l) (hq : x.l.length ≤ 1099511627776) => eq_com x u v x.l.length x.l.length W h h' hq
  have kM := fun (u : Option Addr) (B : Nat) W (h : Mk W B u x.l.length) (hq : x.l.length ≤ 1048576) (hB : B ≤ W.heap.size) => mark_com x u x.l.length 1 B W h hq (by decide) hB
  have HX : Hid (∀ W B u, Cop W B x u → XS (W.alloc (.cells (ccs x u x.l.length).toArray 33)) W.heap.size B x u) := fun W B u h => xs_new W B x u h
  have HM : Hid (Small x → x.l.length ≤ 1048576) := fun h => h.2.1
  have HQ : Hid (∀ W, PT w W x a cap → Blk W w.heap.size (ccs x a cap) 41) := fun W h => h.1
  have HBk : Hid (∀ W g B u, XS W g B x u → Blk W g (ccs x u x.l.length) 33) := fun W g B u h => h.1
  have HFr : Hid (∀ (W W' : World) (g B : Nat) (u : Option Addr) (r : Option Nat), XS W g B x u → W.grownBy W' r → (∀ j, r = some j → j < g) → Blk W' g (ccs x u x.l.length) 33) := fun W W' g B u r h hg hr => h.far hg hr
  have hzl : (cv x).length ≤ 1048576 := by have := cv_len x; omega
  generalize cv x = Z at *
  have kQ := fun (u v : Option Addr) (c d : Nat) W (h : NumsO W u Z) (h' : NumsO W v Z) => eq_ints u v Z c d W h h' hzl
  have kMI := fun (u : Option Addr) (c B : Nat) W (h : MkI W B u Z.length) => mark_rowI u c Z.length 1 B W h hzl (by decide)
  have kHI := fun (u : Option Addr) (c : Nat) W (h : NumsO W u (ims 1 Z.length)) => held_ints u c Z.length 1 W h hzl (by decide)
  obtain ⟨KM, hKM⟩ : ∃ K : Int, ((1 + 2 * x.l.length : Nat) : Int) = K := ⟨_, rfl⟩
  obtain ⟨KI, hKI⟩ : ∃ K : Int, ((1 + Z.length : Nat) : Int) = K := ⟨_, rfl⟩
  have hKM0 : ¬ KM < 0 := by omega
  have hKI0 : ¬ KI < 0 := by omega
  rw [hKM] at kM
  rw [hKI] at kMI kHI
  have k1 : ((1 : Nat) : Int) = 1 := rfl
  rw [k1] at kM kMI kHI
  clear k1 hKM hKI hT hl hs
  obtain ⟨h, rr, i, l⟩ := x
  unfold cV at *
  unfold ccs at *
  simp only at HL HP kS kT kA kB kE kM HX HM HQ HBk HFr ⊢
  go_enter Tryd.func4, Tryd.ntmps4
  have x0 := (HQ.out _ HP.out).cell 0 rfl
  have x1 := (HQ.out _ HP.out).cell 1 rfl
  have x2 := (HQ.out _ HP.out).cell 2 rfl
  have x3 := (HQ.out _ HP.out).cell 3 rfl
  go_wp2_with fail
  generalize w.alloc (Obj.cells #[Value.int .i64 h, Value.int .i64 rr, Value.string i, Value.slice a l.length cap] 41) = w1 at *
  refine (kS _ (HP.out.so HL.out)).mono ?_
  rintro e w2 ⟨q, rfl, hq1, HS, b2⟩
  have HP2 : Hid (PT w w2 ⟨h, rr, i, l⟩ a cap) := HP.out.below b2
  clear x0 x1 x2 x3 b2 HP
  by_cases hq : q < 0
  · go_wp2
    go_ret
    exact ⟨rfl, HP2.out.2⟩
  have hl20 : l.length ≤ 1048576 := HM.out (HS.out (by omega))
  have hl40 : l.length ≤ 1099511627776 := by omega
  clear HS HM
  have x0 := (HQ.out _ HP2.out).cell 0 rfl
  have x1 := (HQ.out _ HP2.out).cell 1 rfl
  have x2 := (HQ.out _ HP2.out).cell 2 rfl
  have x3 := (HQ.out _ HP2.out).cell 3 rfl
  go_wp2_with fail
  refine (kT _ (HP2.out.so HL.out) hl20).mono ?_
  rintro e w3 ⟨u3, rfl, HC3, b3⟩
  go_wp2_with fail
  refine (kA u3 _ HC3.out.o).mono ?_
  rintro e w4 ⟨q4, rfl, h4, b4⟩
  obtain ⟨a4, c4, rfl, hN4, hb4, _⟩ := OwnI.sl h4
  have HP4 : Hid (PT w w4 ⟨h, rr, i, l⟩ a cap) := (HP2.out.below b3).below b4
  have HN4 : Hid (NumsO w4 a4 Z) := hN4
  have HA4 : Hid (∀ b o, a4 = some ⟨b, o, none⟩ → b < w4.heap.size) := fun b o e => (hb4 b o e).2
  have hw4 : w.heap.size < w4.heap.size := (HQ.out _ HP4.out).lt
  clear x0 x1 x2 x3 b3 b4 HP2 HC3 h4 hN4 hb4
  have x0 := (HQ.out _ HP4.out).cell 0 rfl
  have x1 := (HQ.out _ HP4.out).cell 1 rfl
  have x2 := (HQ.out _ HP4.out).cell 2 rfl
  have x3 := (HQ.out _ HP4.out).cell 3 rfl
  go_wp2_with fail
  refine (kT _ (HP4.out.so HL.out) hl20).mono ?_
  rintro e w5 ⟨u5, rfl, HC5, b5⟩
  have hw45 : w4.heap.size ≤ w5.heap.size := b5.size
  have HX5 : Hid (XS (w5.alloc (.cells #[.int .i64 h, .int .i64 rr, .string i, .slice u5 l.length l.length] 33)) w5.heap.size w4.heap.size ⟨h, rr, i, l⟩ u5) := HX.out w5 w4.heap.size u5 HC5.out
  have HU5 : Hid (∀ j, u5 = some ⟨j, 0, none⟩ → j < w5.heap.size) := fun j e => by
    obtain ⟨b, e', _, hlt, _⟩ := HC5.out
    rw [e'] at e; injection e with e; injection e with e1 _; omega
  have HP5 : Hid (PT w (w5.alloc (.cells #[.int .i64 h, .int .i64 rr, .string i, .slice u5 l.length l.length] 33)) ⟨h, rr, i, l⟩ a cap) := (HP4.out.below b5).below (below_one _ _)
  have HN5 : Hid (NumsO (w5.alloc (.cells #[.int .i64 h, .int .i64 rr, .string i, .slice u5 l.length l.length] 33)) a4 Z) := (HN4.out.below b5).below (below_one _ _)
  have hw56 : w5.heap.size < (w5.alloc (.cells #[.int .i64 h, .int .i64 rr, .string i, .slice u5 l.length l.length] 33)).heap.size := by simp
  clear x0 x1 x2 x3 b5 HP4 HC5 HN4
  have y0 := (HBk.out _ _ _ _ HX5.out).cell 0 rfl
  have y1 := (HBk.out _ _ _ _ HX5.out).cell 1 rfl
  have y2 := (HBk.out _ _ _ _ HX5.out).cell 2 rfl
  have y3 := (HBk.out _ _ _ _ HX5.out).cell 3 rfl
  go_wp2_with fail
  generalize w5.alloc (.cells #[.int .i64 h, .int .i64 rr, .string i, .slice u5 l.length l.length] 33) = w6 at *
  refine (kB u5 _ HX5.out.2.o (HT.out.below HP5.out.2 HT.out.pos)).mono ?_
  rintro e w7 ⟨q7, rfl, h7, b7⟩
  obtain ⟨a7, c7, rfl, hN7, hb7, hM7⟩ := OwnI.sl h7
  have hw67 : w6.heap.size ≤ w7.heap.size := b7.size
  have HN7 : Hid (NumsO w7 a7 Z) := hN7
  have HA7 : Hid (∀ b o, a7 = some ⟨b, o, none⟩ → w6.heap.size ≤ b ∧ b < w7.heap.size) := hb7
  have HM7 : Hid (MkI w7 w6.heap.size a7 Z.length) := hM7
  have HN4 : Hid (NumsO w7 a4 Z) := HN5.out.below b7
  have HX7 : Hid (XS w7 w5.heap.size w4.heap.size ⟨h, rr, i, l⟩ u5) := HX5.out.below b7
  have HP7 : Hid (PT w w7 ⟨h, rr, i, l⟩ a cap) := HP5.out.below b7
  clear y0 y1 y2 y3 b7 HX5 HP5 h7 hN7 hb7 hM7 HN5
  go_wp2_with fail
  refine (kQ a7 a4 c7 c4 _ HN7.out HN4.out).mono ?_
  rintro e w8 ⟨rfl, b8⟩
  have HN78 : Hid (NumsO w8 a7 Z) := HN7.out.below b8
  have HN48 : Hid (NumsO w8 a4 Z) := HN4.out.below b8
  have HM8 : Hid (MkI w8 w6.heap.size a7 Z.length) := HM7.out.below b8
  have HX8 : Hid (XS w8 w5.heap.size w4.heap.size ⟨h, rr, i, l⟩ u5) := HX7.out.below b8
  have HP8 : Hid (PT w w8 ⟨h, rr, i, l⟩ a cap) := HP7.out.below b8
  have HPd : Hid (PT w w8.drew ⟨h, rr, i, l⟩ a cap) := HP8.out.below (Below.refl _ _).drew
  have HXd : Hid (XS w8.drew w5.heap.size w4.heap.size ⟨h, rr, i, l⟩ u5) := HX8.out.below (Below.refl _ _).drew
  clear b8 HN7 HN4 HM7 HX7 HP7
  have x0 := (HQ.out _ HP8.out).cell 0 rfl
  have x1 := (HQ.out _ HP8.out).cell 1 rfl
  have x2 := (HQ.out _ HP8.out).cell 2 rfl
  have x3 := (HQ.out _ HP8.out).cell 3 rfl
  have y0 := (HBk.out _ _ _ _ HX8.out).cell 0 rfl
  have y1 := (HBk.out _ _ _ _ HX8.out).cell 1 rfl
  have y2 := (HBk.out _ _ _ _ HX8.out).cell 2 rfl
  have y3 := (HBk.out _ _ _ _ HX8.out).cell 3 rfl
  go_wp2_with fail
  go_region_with (first | (go_at_call 22; refine (kT _ (HPd.out.so HL.out) hl20).mono ?_; rintro e w9 ⟨u9, rfl, HC9, b9⟩; have HX9 : Hid (XS w9 w5.heap.size w4.heap.size ⟨h, rr, i, l⟩ u5) := HXd.out.below b9; have HD9 : Hid (Below w8.heap.size w8 w9) := (Below.refl _ _).drew.trans b9; have z0 := (HBk.out _ _ _ _ HX9.out).cell 0 rfl; have z1 := (HBk.out _ _ _ _ HX9.out).cell 1 rfl; have z2 := (HBk.out _ _ _ _ HX9.out).cell 2 rfl; have z3 := (HBk.out _ _ _ _ HX9.out).cell 3 rfl) | (go_at_call 25; refine (kE u5 u9 _ HX9.out.2.o HC9.out.o hl40).mono ?_; rintro e w10 ⟨rfl, b10⟩; have HD10 : Hid (Below w8.heap.size w8 w10) := HD9.out.trans (b10.mono HD9.out.size)))
  all_goals
    have HN710 : Hid (NumsO w10 a7 Z) := HN78.out.below HD10.out
    have HN410 : Hid (NumsO w10 a4 Z) := HN48.out.below HD10.out
    have HM10 : Hid (MkI w10 w6.heap.size a7 Z.length) := HM8.out.below HD10.out
    have HX10 : Hid (XS w10 w5.heap.size w4.heap.size ⟨h, rr, i, l⟩ u5) := HX8.out.below HD10.out
    have HP10 : Hid (PT w w10 ⟨h, rr, i, l⟩ a cap) := HP8.out.below HD10.out
    have hw510 : w4.heap.size ≤ w10.heap.size := by have := (HBk.out _ _ _ _ HX10.out).lt; omega
    clear x0 x1 x2 x3 y0 y1 y2 y3 z0 z1 z2 z3 b9 b10 HC9 HX9 HD9 HN78 HN48 HM8 HX8 HP8 HPd HXd HD10
    have y0 := (HBk.out _ _ _ _ HX10.out).cell 0 rfl
    have y1 := (HBk.out _ _ _ _ HX10.out).cell 1 rfl
    have y2 := (HBk.out _ _ _ _ HX10.out).cell 2 rfl
    have y3 := (HBk.out _ _ _ _ HX10.out).cell 3 rfl
    go_wp2_with fail
    refine (kM u5 w4.heap.size _ HX10.out.2.mk hl20 hw510).mono ?_
    rintro e w11 ⟨rfl, hs11, r, hr, hgr⟩
    have hr1 : ∀ j, r = some j → w4.heap.size ≤ j := fun j e => (hr j e).1
    have hr2 : ∀ j, r = some j → j < w5.heap.size := fun j e => HU5.out j (hr j e).2
    have HN711 : Hid (NumsO w11 a7 Z) := by
      rcases HN710.out with h0 | ⟨b, o, e, hI⟩
      · exact .inl h0
      · refine .inr ⟨b, o, e, fun j hj => ?_⟩
        have h3 := hI j hj
        have hlt := World.block_lt_of_cell? w10 _ h3
        have hbl := hgr.block b hlt (fun e' => by have := hr2 b e'.symm; have := (HA7.out b o e).1; omega)
        rw [World.cell?_of_block (w := w10) (a := ⟨b, o + j, none⟩) hbl]; exact h3
    have HN411 : Hid (NumsO w11 a4 Z) := HN410.out.far hgr HA4.out hr1
    have HM11 : Hid (MkI w11 w6.heap.size a7 Z.length) := HM10.out.far hgr (fun j e => by have := hr2 j e; omega)
    have HP11 : Hid (PT w w11 ⟨h, rr, i, l⟩ a cap) := HP10.out.far hgr (fun j e => by have := hr1 j e; omega)
    clear y0 y1 y2 y3 hs11 hr hgr hr1 hr2 HN710 HN410 HM10 HX10 HP10 hw510
    go_wp2_with fail
    refine (kQ a7 a4 c7 c4 _ HN711.out HN411.out).mono ?_
    rintro e w12 ⟨rfl, b12⟩
    have HN412 : Hid (NumsO w12 a4 Z) := HN411.out.below b12
    have HM12 : Hid (MkI w12 w6.heap.size a7 Z.length) := HM11.out.below b12
    have HP12 : Hid (PT w w12 ⟨h, rr, i, l⟩ a cap) := HP11.out.below b12
    clear b12 HN711 HN411 HM11 HP11
    go_wp2_with fail
    refine (kMI a7 c7 w6.heap.size _ HM12.out).mono ?_
    rintro e w13 ⟨rfl, hk13, r, hr, hgr⟩
    have HK13 : Hid (NumsO w13 a7 (ims 1 Z.length)) := hk13
    have HN413 : Hid (NumsO w13 a4 Z) := HN412.out.far hgr HA4.out (fun j e => by have := (hr j e).1; omega)
    have HP13 : Hid (PT w w13 ⟨h, rr, i, l⟩ a cap) := HP12.out.far hgr (fun j e => by have := (hr j e).1; omega)
    clear hk13 hr hgr HN412 HM12 HP12
    go_wp2_with fail
    refine (kHI a7 c7 _ HK13.out).mono ?_
    rintro e w14 ⟨rfl, rfl⟩
    have x0 := (HQ.out _ HP13.out).cell 0 rfl
    have x1 := (HQ.out _ HP13.out).cell 1 rfl
    have x2 := (HQ.out _ HP13.out).cell 2 rfl
    have x3 := (HQ.out _ HP13.out).cell 3 rfl
    go_wp2_with fail
    refine (kT _ (HP13.out.so HL.out) hl20).mono ?_
    rintro e w15 ⟨u15, rfl, HC15, b15⟩
    have HP15 : Hid (PT w w15 ⟨h, rr, i, l⟩ a cap) := HP13.out.below b15
    have HN415 : Hid (NumsO w15 a4 Z) := HN413.out.below b15
    have HK15 : Hid (NumsO w15 a7 (ims 1 Z.length)) := HK13.out.below b15
    clear x0 x1 x2 x3 b15 HP13 HN413 HK13
    go_wp2_with fail
    refine (kB u15 _ HC15.out.o (HT.out.below HP15.out.2 HT.out.pos)).mono ?_
    rintro e w16 ⟨q16, rfl, h16, b16⟩
    obtain ⟨a16, c16, rfl, hN16, _, _⟩ := OwnI.sl h16
    have HN16 : Hid (NumsO w16 a16 Z) := hN16
    have HP16 : Hid (PT w w16 ⟨h, rr, i, l⟩ a cap) := HP15.out.below b16
    have HN416 : Hid (NumsO w16 a4 Z) := HN415.out.below b16
    have HK16 : Hid (NumsO w16 a7 (ims 1 Z.length)) := HK15.out.below b16
    clear b16 h16 hN16 HP15 HN415 HK15 HC15
    go_wp2_with fail
    refine (kQ a16 a4 c16 c4 _ HN16.out HN416.out).mono ?_
    rintro e w17 ⟨rfl, b17⟩
    have HP17 : Hid (PT w w17 ⟨h, rr, i, l⟩ a cap) := HP16.out.below b17
    have HK17 : Hid (NumsO w17 a7 (ims 1 Z.length)) := HK16.out.below b17
    clear b17 HN16 HN416 HP16 HK16
    go_wp2_with fail
    refine (kHI a7 c7 _ HK17.out).mono ?_
    rintro e w18 ⟨rfl, rfl⟩
    go_wp2
    go_ret
    exact ⟨rfl, HP17.out.2⟩
end Go.Proofs.YtbpmjejmeaifbaaDoor
