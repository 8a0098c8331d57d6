/- What spec.ReadHeader answers; old memory stays. Conditions: texts of at most 2 to the 20 bytes. -/
import Derived.Test.YtbpmjejmeaifbaaDoorTk
import Derived.Test.YtbpmjejmeaifbaaDoorCr
import Derived.Test.YtbpmjejmeaifbaaDoorMD
namespace Go.Proofs.YtbpmjejmeaifbaaDoor
open Go.RowKit
open Num
set_option linter.unusedVariables false
/-- Cells of a block that may be written. -/
def Frz (W : World) (g : Nat) : Prop := ∀ j, W.frozen? ⟨g, j, none⟩ = false
theorem Frz.below {W W' : World} {g B : Nat} (h : Frz W g) (hb : Below B W W') (hg : g < B) : Frz W' g := fun j => (hb.frozen (p := ⟨g, j, none⟩) hg).trans (h j)
theorem frz_new (w : World) (cs : Array Value) (t : TypeId) : Frz (w.alloc (.cells cs t)) w.heap.size := fun j => by simp
/-- A block with a header in it that may be written. -/
def Hol (W : World) (g : Nat) (x : H) : Prop := Six W g x ∧ Frz W g
theorem Hol.below {W W' : World} {g B : Nat} {x : H} (h : Hol W g x) (hb : Below B W W') (hg : g < B) : Hol W' g x := ⟨h.1.below hb hg, h.2.below hb hg⟩
theorem hol_new (w : World) (x : H) (t : TypeId) : Hol (w.alloc (.cells (hcs x) t)) w.heap.size x := ⟨six_new w x t, frz_new w _ t⟩
/-- A header stored into a block, field by field. -/
def put6 (w : World) (g : Nat) (x : H) : World := (((((w.setCell ⟨g, 0, none⟩ (.int .i64 x.h)).setCell ⟨g, 1, none⟩ (.int .i64 x.t)).setCell ⟨g, 2, none⟩ (.string x.a)).setCell ⟨g, 3, none⟩ (.string x.v)).setCell ⟨g, 4, none⟩ (.string x.n)).setCell ⟨g, 5, none⟩ (.string x.d)
theorem set_at {w : World} {g i j : Nat} {u c : Value} (h : w.cell? ⟨g, j, none⟩ = some c) (hne : i ≠ j) : (w.setCell ⟨g, i, none⟩ u).cell? ⟨g, j, none⟩ = some c := by
  rw [World.cell?_setCell_other w ⟨g, i, none⟩ ⟨g, j, none⟩ u (fun e => hne (by injection e))]; exact h
theorem put6_six {w : World} {g : Nat} {x y : H} (h : Six w g x) : Six (put6 w g y) g y := by
  obtain ⟨h0, h1, h2, h3, h4, h5⟩ := h
  unfold put6
  have a1 := set_at (i := 0) (u := .int .i64 y.h) h1 (by decide)
  have a2 := set_at (i := 1) (u := .int .i64 y.t) (set_at (i := 0) (u := .int .i64 y.h) h2 (by decide)) (by decide)
  have a3 := set_at (i := 2) (u := .string y.a) (set_at (i := 1) (u := .int .i64 y.t) (set_at (i := 0) (u := .int .i64 y.h) h3 (by decide)) (by decide)) (by decide)
  have a4 := set_at (i := 3) (u := .string y.v) (set_at (i := 2) (u := .string y.a) (set_at (i := 1) (u := .int .i64 y.t) (set_at (i := 0) (u := .int .i64 y.h) h4 (by decide)) (by decide)) (by decide)) (by decide)
  have a5 := set_at (i := 4) (u := .string y.n) (set_at (i := 3) (u := .string y.v) (set_at (i := 2) (u := .string y.a) (set_at (i := 1) (u := .int .i64 y.t) (set_at (i := 0) (u := .int .i64 y.h) h5 (by decide)) (by decide)) (by decide)) (by decide)) (by decide)
  refine ⟨?_, ?_, ?_, ?_, ?_, World.cell?_setCell_same _ _ _ a5⟩
  · exact set_at (set_at (set_at (set_at (set_at (World.cell?_setCell_same _ _ _ h0) (by decide)) (by decide)) (by decide)) (by decide)) (by decide)
  · exact set_at (set_at (set_at (set_at (World.cell?_setCell_same _ _ _ a1) (by decide)) (by decide)) (by decide)) (by decide)
  · exact set_at (set_at (set_at (World.cell?_setCell_same _ _ _ a2) (by decide)) (by decide)) (by decide)
  · exact set_at (set_at (World.cell?_setCell_same _ _ _ a3) (by decide)) (by decide)
  · exact set_at (World.cell?_setCell_same _ _ _ a4) (by decide)
theorem put6_below {B g : Nat} {a w : World} (x : H) (h : Below B a w) (hg : B ≤ g) : Below B a (put6 w g x) :=
  (((((h.setCell hg _).setCell hg _).setCell hg _).setCell hg _).setCell hg _).setCell hg _
set_option maxHeartbeats 1600000 in
set_option maxRecDepth 100000 in
theorem spec_read (s : ByteArray) (w : World) (hs : s.size ≤ 1048576) :
    Calls Tryd.prog 10 #[.string s] w fun e w' => e = .returned (.tuple #[hV (rdH s).1, .bool (rdH s).2]) ∧ Below w.heap.size w w' := by
  have HH : Hid (Hol (w.alloc (.cells (hcs zH) 25)) w.heap.size zH) := hol_new w zH 25
  have HB : Hid (Below w.heap.size w (w.alloc (.cells (hcs zH) 25))) := (Below.refl _ _).alloc (Nat.le_refl _) _
  have hz : w.heap.size < (w.alloc (.cells (hcs zH) 25)).heap.size := by simp
  have kV := fun W => spec_vars s 0 2 W (by omega) (by omega) (by omega)
  unfold hcs zH at *
  rcases hv : vL s 0 2 with _ | ⟨xs, b⟩
  · rw [sp_none hv]
    unfold hV zH
    simp only
    have HV : Hid (vL s 0 2 = none) := hv
    clear hv
    go_enter Tryd.func10, Tryd.ntmps10
    go_wp2_with fail
    generalize w.alloc (Obj.cells #[Value.int .i64 0, Value.int .i64 0, Value.string ⟨#[]⟩, Value.string ⟨#[]⟩, Value.string ⟨#[]⟩, Value.string ⟨#[]⟩] 25) = w0 at *
    refine (kV _).mono ?_
    rintro e w1 ⟨v1, r1, rfl, h1, b1⟩
    obtain rfl : r1 = -1 := by
      rcases h1.out with ⟨_, h⟩ | ⟨xs, b, h, _, _⟩
      · exact h
      · rw [HV.out] at h; cases h
    clear h1
    have HX : Hid (Six w1 w.heap.size ⟨0, 0, ⟨#[]⟩, ⟨#[]⟩, ⟨#[]⟩, ⟨#[]⟩⟩) := (HH.out.below b1 hz).1
    obtain ⟨⟨x0, x1, x2, x3, x4, x5⟩, ff⟩ := HH.out.below b1 hz
    unfold Frz at ff
    simp only at x0 x1 x2 x3 x4 x5
    have HB1 : Hid (Below w.heap.size w w1) := HB.out.trans (b1.mono HB.out.size)
    clear b1
    have HY : Hid (Six (put6 w1 w.heap.size ⟨0, 0, ⟨#[]⟩, ⟨#[]⟩, ⟨#[]⟩, ⟨#[]⟩⟩) w.heap.size ⟨0, 0, ⟨#[]⟩, ⟨#[]⟩, ⟨#[]⟩, ⟨#[]⟩⟩) := put6_six (HX.out)
    have HB2 : Hid (Below w.heap.size w (put6 w1 w.heap.size ⟨0, 0, ⟨#[]⟩, ⟨#[]⟩, ⟨#[]⟩, ⟨#[]⟩⟩)) := put6_below _ HB1.out (Nat.le_refl _)
    go_wp2
    clear x0 x1 x2 x3 x4 x5
    obtain ⟨y0, y1, y2, y3, y4, y5⟩ := HY.out
    unfold put6 at y0 y1 y2 y3 y4 y5
    simp only at y0 y1 y2 y3 y4 y5
    refine bodyPost_ret (v := .tuple #[.agg #[.int .i64 0, .int .i64 0, .string ⟨#[]⟩, .string ⟨#[]⟩, .string ⟨#[]⟩, .string ⟨#[]⟩], .bool false]) ?_ rfl ⟨rfl, HB2.out⟩
    generalize hW : ((((((w1.setCell _ _).setCell _ _).setCell _ _).setCell _ _).setCell _ _).setCell _ _ : World) = W at *
    clear HY HB2
    simp [results, Tryd.results10, go_sem, y0, y1, y2, y3, y4, y5]
  · obtain ⟨hx1, hx2, _⟩ := vL_two hv
    obtain ⟨X0, hX0⟩ : ∃ x, (rvAt s 0).1 = x := ⟨_, rfl⟩
    obtain ⟨X1, hX1⟩ : ∃ x, (rvAt s (rvAt s 0).2).1 = x := ⟨_, rfl⟩
    rw [hX0, hX1] at hx1
    subst hx1
    have hbs := (vL_len (Nat.zero_le _) hv).2
    clear hX0 hX1 hx2
    have HV : Hid (∀ (v1 : Value) (r1 : Int) (B : Nat) (w1 : World), Hid ((vL s 0 2 = none ∧ r1 = -1) ∨ ∃ (xs : List Int) (b : Nat), vL s 0 2 = some (xs, b) ∧ r1 = (b : Int) ∧ OwnI w1 B v1 xs) → r1 = (b : Int) ∧ ∃ g cap, v1 = .slice (some ⟨g, 0, none⟩) 2 cap ∧ w1.cell? ⟨g, 0, none⟩ = some (.int .i64 X0) ∧ w1.cell? ⟨g, 1, none⟩ = some (.int .i64 X1)) := fun v1 r1 B w1 h => by
      rcases h.out with ⟨h, _⟩ | ⟨xs', b', h, hb, ho⟩
      · rw [hv] at h; cases h
      · rw [hv] at h
        simp only [Option.some.injEq, Prod.mk.injEq] at h
        obtain ⟨rfl, rfl⟩ := h
        obtain ⟨g, cap, rfl, hI⟩ := ho.at (by simp)
        exact ⟨hb, g, cap, rfl, by simpa using hI 0 (by simp), by simpa using hI 1 (by simp)⟩
    obtain ⟨⟨A1, t1⟩, e1⟩ : ∃ r, tk s (b : Int) = r := ⟨_, rfl⟩
    obtain ⟨⟨V1, t2⟩, e2⟩ : ∃ r, tk s t1 = r := ⟨_, rfl⟩
    obtain ⟨⟨N1, t3⟩, e3⟩ : ∃ r, tk s t2 = r := ⟨_, rfl⟩
    obtain ⟨⟨D1, t4⟩, e4⟩ : ∃ r, tk s t3 = r := ⟨_, rfl⟩
    have HY : Hid (srH s [X0, X1] (b : Int) = ⟨X0, X1, A1, V1, N1, D1⟩ ∧ srE s (b : Int) = t4) := by
      unfold srH srE
      rw [e1]
      simp only
      rw [e2]
      simp only
      rw [e3]
      simp only
      rw [e4]
      exact ⟨rfl, rfl⟩
    have q1 := (tk_bound s (b : Int)).1
    have q2 := (tk_bound s t1).1
    have q3 := (tk_bound s t2).1
    rw [e1] at q1
    rw [e2] at q2
    rw [e3] at q3
    simp only at q1 q2 q3
    have k0 := fun W => spec_take s (b : Int) W (by omega) (by omega)
    have k1 := fun W => spec_take s t1 W (by omega) (by omega)
    have k2 := fun W => spec_take s t2 W (by omega) (by omega)
    have k3 := fun W => spec_take s t3 W (by omega) (by omega)
    rw [e1] at k0
    rw [e2] at k1
    rw [e3] at k2
    rw [e4] at k3
    simp only at k0 k1 k2 k3
    clear e1 e2 e3 e4 q1 q2 q3
    have kS := fun W => spec_show ⟨X0, X1, A1, V1, N1, D1⟩ W
    have hb0 : ¬ (b : Int) < 0 := by omega
    by_cases hE : t4 = (s.size : Int)
    · by_cases hF : showH ⟨X0, X1, A1, V1, N1, D1⟩ = s
      · rw [sp_good hv (by rw [HY.out.1]; exact hF), HY.out.1]
        rw [hF] at kS
        clear HY hv hF
        subst hE
        have hbq : (s.toList == s.toList) = true := by simp
        unfold hV at *
        simp only at kS ⊢
        go_enter Tryd.func10, Tryd.ntmps10
        go_wp2_with fail
        generalize w.alloc (Obj.cells #[Value.int .i64 0, Value.int .i64 0, Value.string ⟨#[]⟩, Value.string ⟨#[]⟩, Value.string ⟨#[]⟩, Value.string ⟨#[]⟩] 25) = w0 at *
        refine (kV _).mono ?_
        rintro e w1 ⟨v1, r1, rfl, h1, b1⟩
        obtain ⟨rfl, g, cap, rfl, l0, l1⟩ := HV.out _ _ _ _ h1
        clear h1
        have hgl : g < w1.heap.size := World.block_lt_of_cell? w1 _ l0
        have HG : Hid (w1.cell? ⟨g, 0, none⟩ = some (.int .i64 X0) ∧ w1.cell? ⟨g, 1, none⟩ = some (.int .i64 X1)) := ⟨l0, l1⟩
        have HC1 : Hid (Below w0.heap.size w0 w1) := b1
        clear b1 l0 l1
        go_wp2_with fail
        refine (k0 _).mono ?_
        rintro e w2 ⟨rfl, b2⟩
        have HD2 : Hid (Below w1.heap.size w1 w2) := b2
        clear b2
        go_wp2_with fail
        refine (k1 _).mono ?_
        rintro e w3 ⟨rfl, b3⟩
        have HD3 : Hid (Below w1.heap.size w1 w3) := HD2.out.trans (b3.mono HD2.out.size)
        clear b3 HD2
        go_wp2_with fail
        refine (k2 _).mono ?_
        rintro e w4 ⟨rfl, b4⟩
        have HD4 : Hid (Below w1.heap.size w1 w4) := HD3.out.trans (b4.mono HD3.out.size)
        clear b4 HD3
        go_wp2_with fail
        refine (k3 _).mono ?_
        rintro e w5 ⟨rfl, b5⟩
        have HD5 : Hid (Below w1.heap.size w1 w5) := HD4.out.trans (b5.mono HD4.out.size)
        clear b5 HD4
        have c0 := (HD5.out.cell (p := ⟨g, 0, none⟩) hgl).trans HG.out.1
        have c1 := (HD5.out.cell (p := ⟨g, 1, none⟩) hgl).trans HG.out.2
        have HC5 : Hid (Below w0.heap.size w0 w5) := HC1.out.trans (HD5.out.mono HC1.out.size)
        have hg5 : g < w5.heap.size := World.block_lt_of_cell? w5 _ c0
        have hg6 : ¬ g = w5.heap.size := by omega
        have d0 := ((Below.refl w5.heap.size w5).alloc (Nat.le_refl _) (Obj.cells #[Value.int .i64 0, Value.int .i64 0, Value.string ⟨#[]⟩, Value.string ⟨#[]⟩, Value.string ⟨#[]⟩, Value.string ⟨#[]⟩] 25)).cell (p := ⟨g, 0, none⟩) hg5
        have d1 := ((Below.refl w5.heap.size w5).alloc (Nat.le_refl _) (Obj.cells #[Value.int .i64 0, Value.int .i64 0, Value.string ⟨#[]⟩, Value.string ⟨#[]⟩, Value.string ⟨#[]⟩, Value.string ⟨#[]⟩] 25)).cell (p := ⟨g, 1, none⟩) hg5
        rw [c0] at d0
        rw [c1] at d1
        clear HD5 HC1 HG hgl
        go_wp2_with fail
        go_region
        all_goals
          have HS6 : Hid (Six (w5.alloc (.cells #[.int .i64 X0, .int .i64 X1, .string A1, .string V1, .string N1, .string D1] 25)).drew w5.heap.size ⟨X0, X1, A1, V1, N1, D1⟩) := six_new w5 ⟨X0, X1, A1, V1, N1, D1⟩ 25
          have HC6 : Hid (Below w0.heap.size w0 (w5.alloc (.cells #[.int .i64 X0, .int .i64 X1, .string A1, .string V1, .string N1, .string D1] 25)).drew) := (HC5.out.alloc HC5.out.size _).drew
          have hg8 : w5.heap.size < (w5.alloc (.cells #[.int .i64 X0, .int .i64 X1, .string A1, .string V1, .string N1, .string D1] 25)).drew.heap.size := by simp
          clear c0 c1 d0 d1 hg5 hg6 HC5
          generalize (w5.alloc (Obj.cells #[Value.int .i64 X0, Value.int .i64 X1, Value.string A1, Value.string V1, Value.string N1, Value.string D1] 25)).drew = w6 at *
          obtain ⟨s0, s1, s2, s3, s4, s5⟩ := HS6.out
          simp only at s0 s1 s2 s3 s4 s5
          go_wp2_with fail
          refine (kS _).mono ?_
          rintro e w7 ⟨rfl, b7⟩
          have HC7 : Hid (Below w0.heap.size w0 w7) := HC6.out.trans (b7.mono HC6.out.size)
          have HS7 : Hid (Six w7 w5.heap.size ⟨X0, X1, A1, V1, N1, D1⟩) := HS6.out.below b7 hg8
          clear s0 s1 s2 s3 s4 s5 b7 HC6 HS6 hg8
          have HX : Hid (Six w7 w.heap.size ⟨0, 0, ⟨#[]⟩, ⟨#[]⟩, ⟨#[]⟩, ⟨#[]⟩⟩) := (HH.out.below HC7.out hz).1
          obtain ⟨⟨x0, x1, x2, x3, x4, x5⟩, ff⟩ := HH.out.below HC7.out hz
          unfold Frz at ff
          simp only at x0 x1 x2 x3 x4 x5
          obtain ⟨s0, s1, s2, s3, s4, s5⟩ := HS7.out
          simp only at s0 s1 s2 s3 s4 s5
          have HZ : Hid (Six (put6 w7 w.heap.size ⟨X0, X1, A1, V1, N1, D1⟩) w.heap.size ⟨X0, X1, A1, V1, N1, D1⟩) := put6_six HX.out
          have HB2 : Hid (Below w.heap.size w (put6 w7 w.heap.size ⟨X0, X1, A1, V1, N1, D1⟩)) := put6_below _ (HB.out.trans (HC7.out.mono HB.out.size)) (Nat.le_refl _)
          go_wp2
          clear x0 x1 x2 x3 x4 x5 s0 s1 s2 s3 s4 s5
          obtain ⟨y0, y1, y2, y3, y4, y5⟩ := HZ.out
          unfold put6 at y0 y1 y2 y3 y4 y5
          simp only at y0 y1 y2 y3 y4 y5
          refine bodyPost_ret (v := .tuple #[.agg #[.int .i64 X0, .int .i64 X1, .string A1, .string V1, .string N1, .string D1], .bool true]) ?_ rfl ⟨rfl, HB2.out⟩
          generalize hW : ((((((w7.setCell _ _).setCell _ _).setCell _ _).setCell _ _).setCell _ _).setCell _ _ : World) = W at *
          clear HZ HB2
          simp [results, Tryd.results10, go_sem, y0, y1, y2, y3, y4, y5]
      · rw [sp_other hv (by rw [HY.out.1]; exact hF)]
        clear HY hv
        generalize showH ⟨X0, X1, A1, V1, N1, D1⟩ = q at *
        have hbq : (q.toList == s.toList) = false := by
          rw [← Bool.not_eq_true, beq_iff_eq]
          intro e
          exact hF (toList_inj e)
        clear hF
        subst hE
        unfold hV zH at *
        simp only at kS ⊢
        go_enter Tryd.func10, Tryd.ntmps10
        go_wp2_with fail
        generalize w.alloc (Obj.cells #[Value.int .i64 0, Value.int .i64 0, Value.string ⟨#[]⟩, Value.string ⟨#[]⟩, Value.string ⟨#[]⟩, Value.string ⟨#[]⟩] 25) = w0 at *
        refine (kV _).mono ?_
        rintro e w1 ⟨v1, r1, rfl, h1, b1⟩
        obtain ⟨rfl, g, cap, rfl, l0, l1⟩ := HV.out _ _ _ _ h1
        clear h1
        have hgl : g < w1.heap.size := World.block_lt_of_cell? w1 _ l0
        have HG : Hid (w1.cell? ⟨g, 0, none⟩ = some (.int .i64 X0) ∧ w1.cell? ⟨g, 1, none⟩ = some (.int .i64 X1)) := ⟨l0, l1⟩
        have HC1 : Hid (Below w0.heap.size w0 w1) := b1
        clear b1 l0 l1
        go_wp2_with fail
        refine (k0 _).mono ?_
        rintro e w2 ⟨rfl, b2⟩
        have HD2 : Hid (Below w1.heap.size w1 w2) := b2
        clear b2
        go_wp2_with fail
        refine (k1 _).mono ?_
        rintro e w3 ⟨rfl, b3⟩
        have HD3 : Hid (Below w1.heap.size w1 w3) := HD2.out.trans (b3.mono HD2.out.size)
        clear b3 HD2
        go_wp2_with fail
        refine (k2 _).mono ?_
        rintro e w4 ⟨rfl, b4⟩
        have HD4 : Hid (Below w1.heap.size w1 w4) := HD3.out.trans (b4.mono HD3.out.size)
        clear b4 HD3
        go_wp2_with fail
        refine (k3 _).mono ?_
        rintro e w5 ⟨rfl, b5⟩
        have HD5 : Hid (Below w1.heap.size w1 w5) := HD4.out.trans (b5.mono HD4.out.size)
        clear b5 HD4
        have c0 := (HD5.out.cell (p := ⟨g, 0, none⟩) hgl).trans HG.out.1
        have c1 := (HD5.out.cell (p := ⟨g, 1, none⟩) hgl).trans HG.out.2
        have HC5 : Hid (Below w0.heap.size w0 w5) := HC1.out.trans (HD5.out.mono HC1.out.size)
        have hg5 : g < w5.heap.size := World.block_lt_of_cell? w5 _ c0
        have hg6 : ¬ g = w5.heap.size := by omega
        have d0 := ((Below.refl w5.heap.size w5).alloc (Nat.le_refl _) (Obj.cells #[Value.int .i64 0, Value.int .i64 0, Value.string ⟨#[]⟩, Value.string ⟨#[]⟩, Value.string ⟨#[]⟩, Value.string ⟨#[]⟩] 25)).cell (p := ⟨g, 0, none⟩) hg5
        have d1 := ((Below.refl w5.heap.size w5).alloc (Nat.le_refl _) (Obj.cells #[Value.int .i64 0, Value.int .i64 0, Value.string ⟨#[]⟩, Value.string ⟨#[]⟩, Value.string ⟨#[]⟩, Value.string ⟨#[]⟩] 25)).cell (p := ⟨g, 1, none⟩) hg5
        rw [c0] at d0
        rw [c1] at d1
        clear HD5 HC1 HG hgl
        go_wp2_with fail
        go_region
        all_goals
          have HS6 : Hid (Six (w5.alloc (.cells #[.int .i64 X0, .int .i64 X1, .string A1, .string V1, .string N1, .string D1] 25)).drew w5.heap.size ⟨X0, X1, A1, V1, N1, D1⟩) := six_new w5 ⟨X0, X1, A1, V1, N1, D1⟩ 25
          have HC6 : Hid (Below w0.heap.size w0 (w5.alloc (.cells #[.int .i64 X0, .int .i64 X1, .string A1, .string V1, .string N1, .string D1] 25)).drew) := (HC5.out.alloc HC5.out.size _).drew
          have hg8 : w5.heap.size < (w5.alloc (.cells #[.int .i64 X0, .int .i64 X1, .string A1, .string V1, .string N1, .string D1] 25)).drew.heap.size := by simp
          clear c0 c1 d0 d1 hg5 hg6 HC5
          generalize (w5.alloc (Obj.cells #[Value.int .i64 X0, Value.int .i64 X1, Value.string A1, Value.string V1, Value.string N1, Value.string D1] 25)).drew = w6 at *
          obtain ⟨s0, s1, s2, s3, s4, s5⟩ := HS6.out
          simp only at s0 s1 s2 s3 s4 s5
          go_wp2_with fail
          refine (kS _).mono ?_
          rintro e w7 ⟨rfl, b7⟩
          have HC7 : Hid (Below w0.heap.size w0 w7) := HC6.out.trans (b7.mono HC6.out.size)
          have HS7 : Hid (Six w7 w5.heap.size ⟨X0, X1, A1, V1, N1, D1⟩) := HS6.out.below b7 hg8
          clear s0 s1 s2 s3 s4 s5 b7 HC6 HS6 hg8
          have HX : Hid (Six w7 w.heap.size ⟨0, 0, ⟨#[]⟩, ⟨#[]⟩, ⟨#[]⟩, ⟨#[]⟩⟩) := (HH.out.below HC7.out hz).1
          obtain ⟨⟨x0, x1, x2, x3, x4, x5⟩, ff⟩ := HH.out.below HC7.out hz
          unfold Frz at ff
          simp only at x0 x1 x2 x3 x4 x5
          have HZ : Hid (Six (put6 w7 w.heap.size ⟨0, 0, ⟨#[]⟩, ⟨#[]⟩, ⟨#[]⟩, ⟨#[]⟩⟩) w.heap.size ⟨0, 0, ⟨#[]⟩, ⟨#[]⟩, ⟨#[]⟩, ⟨#[]⟩⟩) := put6_six HX.out
          have HB2 : Hid (Below w.heap.size w (put6 w7 w.heap.size ⟨0, 0, ⟨#[]⟩, ⟨#[]⟩, ⟨#[]⟩, ⟨#[]⟩⟩)) := put6_below _ (HB.out.trans (HC7.out.mono HB.out.size)) (Nat.le_refl _)
          go_wp2
          clear x0 x1 x2 x3 x4 x5
          obtain ⟨y0, y1, y2, y3, y4, y5⟩ := HZ.out
          unfold put6 at y0 y1 y2 y3 y4 y5
          simp only at y0 y1 y2 y3 y4 y5
          refine bodyPost_ret (v := .tuple #[.agg #[.int .i64 0, .int .i64 0, .string ⟨#[]⟩, .string ⟨#[]⟩, .string ⟨#[]⟩, .string ⟨#[]⟩], .bool false]) ?_ rfl ⟨rfl, HB2.out⟩
          generalize hW : ((((((w7.setCell _ _).setCell _ _).setCell _ _).setCell _ _).setCell _ _).setCell _ _ : World) = W at *
          clear HZ HB2
          simp [results, Tryd.results10, go_sem, y0, y1, y2, y3, y4, y5]
    · rw [sp_end hv (by rw [HY.out.2]; exact hE)]
      clear HY hv
      unfold hV zH at *
      simp only at kS ⊢
      go_enter Tryd.func10, Tryd.ntmps10
      go_wp2_with fail
      generalize w.alloc (Obj.cells #[Value.int .i64 0, Value.int .i64 0, Value.string ⟨#[]⟩, Value.string ⟨#[]⟩, Value.string ⟨#[]⟩, Value.string ⟨#[]⟩] 25) = w0 at *
      refine (kV _).mono ?_
      rintro e w1 ⟨v1, r1, rfl, h1, b1⟩
      obtain ⟨rfl, g, cap, rfl, l0, l1⟩ := HV.out _ _ _ _ h1
      clear h1
      have hgl : g < w1.heap.size := World.block_lt_of_cell? w1 _ l0
      have HG : Hid (w1.cell? ⟨g, 0, none⟩ = some (.int .i64 X0) ∧ w1.cell? ⟨g, 1, none⟩ = some (.int .i64 X1)) := ⟨l0, l1⟩
      have HC1 : Hid (Below w0.heap.size w0 w1) := b1
      clear b1 l0 l1
      go_wp2_with fail
      refine (k0 _).mono ?_
      rintro e w2 ⟨rfl, b2⟩
      have HD2 : Hid (Below w1.heap.size w1 w2) := b2
      clear b2
      go_wp2_with fail
      refine (k1 _).mono ?_
      rintro e w3 ⟨rfl, b3⟩
      have HD3 : Hid (Below w1.heap.size w1 w3) := HD2.out.trans (b3.mono HD2.out.size)
      clear b3 HD2
      go_wp2_with fail
      refine (k2 _).mono ?_
      rintro e w4 ⟨rfl, b4⟩
      have HD4 : Hid (Below w1.heap.size w1 w4) := HD3.out.trans (b4.mono HD3.out.size)
      clear b4 HD3
      go_wp2_with fail
      refine (k3 _).mono ?_
      rintro e w5 ⟨rfl, b5⟩
      have HD5 : Hid (Below w1.heap.size w1 w5) := HD4.out.trans (b5.mono HD4.out.size)
      clear b5 HD4
      have c0 := (HD5.out.cell (p := ⟨g, 0, none⟩) hgl).trans HG.out.1
      have c1 := (HD5.out.cell (p := ⟨g, 1, none⟩) hgl).trans HG.out.2
      have HC5 : Hid (Below w0.heap.size w0 w5) := HC1.out.trans (HD5.out.mono HC1.out.size)
      have hg5 : g < w5.heap.size := World.block_lt_of_cell? w5 _ c0
      have hg6 : ¬ g = w5.heap.size := by omega
      have d0 := ((Below.refl w5.heap.size w5).alloc (Nat.le_refl _) (Obj.cells #[Value.int .i64 0, Value.int .i64 0, Value.string ⟨#[]⟩, Value.string ⟨#[]⟩, Value.string ⟨#[]⟩, Value.string ⟨#[]⟩] 25)).cell (p := ⟨g, 0, none⟩) hg5
      have d1 := ((Below.refl w5.heap.size w5).alloc (Nat.le_refl _) (Obj.cells #[Value.int .i64 0, Value.int .i64 0, Value.string ⟨#[]⟩, Value.string ⟨#[]⟩, Value.string ⟨#[]⟩, Value.string ⟨#[]⟩] 25)).cell (p := ⟨g, 1, none⟩) hg5
      rw [c0] at d0
      rw [c1] at d1
      clear HD5 HC1 HG hgl
      go_wp2_with fail
      go_region
      all_goals
        have HS6 : Hid (Six (w5.alloc (.cells #[.int .i64 X0, .int .i64 X1, .string A1, .string V1, .string N1, .string D1] 25)).drew w5.heap.size ⟨X0, X1, A1, V1, N1, D1⟩) := six_new w5 ⟨X0, X1, A1, V1, N1, D1⟩ 25
        have HC6 : Hid (Below w0.heap.size w0 (w5.alloc (.cells #[.int .i64 X0, .int .i64 X1, .string A1, .string V1, .string N1, .string D1] 25)).drew) := (HC5.out.alloc HC5.out.size _).drew
        have hg8 : w5.heap.size < (w5.alloc (.cells #[.int .i64 X0, .int .i64 X1, .string A1, .string V1, .string N1, .string D1] 25)).drew.heap.size := by simp
        clear c0 c1 d0 d1 hg5 hg6 HC5
        generalize (w5.alloc (Obj.cells #[Value.int .i64 X0, Value.int .i64 X1, Value.string A1, Value.string V1, Value.string N1, Value.string D1] 25)).drew = w6 at *
        rename Hid (Below w0.heap.size w0 w6) => HC7
        have HX : Hid (Six w6 w.heap.size ⟨0, 0, ⟨#[]⟩, ⟨#[]⟩, ⟨#[]⟩, ⟨#[]⟩⟩) := (HH.out.below HC7.out hz).1
        obtain ⟨⟨x0, x1, x2, x3, x4, x5⟩, ff⟩ := HH.out.below HC7.out hz
        unfold Frz at ff
        simp only at x0 x1 x2 x3 x4 x5
        have HZ : Hid (Six (put6 w6 w.heap.size ⟨0, 0, ⟨#[]⟩, ⟨#[]⟩, ⟨#[]⟩, ⟨#[]⟩⟩) w.heap.size ⟨0, 0, ⟨#[]⟩, ⟨#[]⟩, ⟨#[]⟩, ⟨#[]⟩⟩) := put6_six HX.out
        have HB2 : Hid (Below w.heap.size w (put6 w6 w.heap.size ⟨0, 0, ⟨#[]⟩, ⟨#[]⟩, ⟨#[]⟩, ⟨#[]⟩⟩)) := put6_below _ (HB.out.trans (HC7.out.mono HB.out.size)) (Nat.le_refl _)
        go_wp2
        clear x0 x1 x2 x3 x4 x5
        obtain ⟨y0, y1, y2, y3, y4, y5⟩ := HZ.out
        unfold put6 at y0 y1 y2 y3 y4 y5
        simp only at y0 y1 y2 y3 y4 y5
        refine bodyPost_ret (v := .tuple #[.agg #[.int .i64 0, .int .i64 0, .string ⟨#[]⟩, .string ⟨#[]⟩, .string ⟨#[]⟩, .string ⟨#[]⟩], .bool false]) ?_ rfl ⟨rfl, HB2.out⟩
        generalize hW : ((((((w6.setCell _ _).setCell _ _).setCell _ _).setCell _ _).setCell _ _).setCell _ _ : World) = W at *
        clear HZ HB2
        simp [results, Tryd.results10, go_sem, y0, y1, y2, y3, y4, y5]
end Go.Proofs.YtbpmjejmeaifbaaDoor
