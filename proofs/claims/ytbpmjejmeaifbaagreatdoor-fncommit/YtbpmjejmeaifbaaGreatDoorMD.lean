/- A header's six cells in a block of its own, kept. Conditions: none of ours. What spec.l6Piece answers; old memory stays. Conditions: texts of at most 2 to the 40 bytes. What spec.l6Piece and spec.ShowHeader answer; old memory stays. Conditions: texts of at most 2 to the 40 bytes. -/
import Derived.Test.YtbpmjejmeaifbaaGreatDoorHl
import Derived.Test.YtbpmjejmeaifbaaGreatDoorMC
import Derived.Test.YtbpmjejmeaifbaaGreatDoorVar
namespace Go.Proofs.YtbpmjejmeaifbaaGreatDoor
open Go.RowKit
open Num
set_option linter.unusedVariables false
def Six (W : World) (g : Nat) (x : H) : Prop := W.cell? ⟨g, 0, none⟩ = some (.int .i64 x.h) ∧ W.cell? ⟨g, 1, none⟩ = some (.int .i64 x.t) ∧ W.cell? ⟨g, 2, none⟩ = some (.string x.a) ∧ W.cell? ⟨g, 3, none⟩ = some (.string x.v) ∧ W.cell? ⟨g, 4, none⟩ = some (.string x.n) ∧ W.cell? ⟨g, 5, none⟩ = some (.string x.d)
theorem Six.below {W W' : World} {g B : Nat} {x : H} (h : Six W g x) (hb : Below B W W') (hg : g < B) : Six W' g x := by
  obtain ⟨h0, h1, h2, h3, h4, h5⟩ := h
  exact ⟨(hb.cell (p := ⟨g, 0, none⟩) hg).trans h0, (hb.cell (p := ⟨g, 1, none⟩) hg).trans h1, (hb.cell (p := ⟨g, 2, none⟩) hg).trans h2, (hb.cell (p := ⟨g, 3, none⟩) hg).trans h3, (hb.cell (p := ⟨g, 4, none⟩) hg).trans h4, (hb.cell (p := ⟨g, 5, none⟩) hg).trans h5⟩
theorem Six.lt {W : World} {g : Nat} {x : H} (h : Six W g x) : g < W.heap.size := World.block_lt_of_cell? W _ h.1
theorem six_new (w : World) (x : H) (t : TypeId) : Six (w.alloc (.cells (hcs x) t)) w.heap.size x := by
  unfold Six hcs; simp
theorem below_next {w : World} {o : Obj} {W : World} (h : Below (w.alloc o).heap.size (w.alloc o) W) : Below w.heap.size w W :=
  ((Below.refl _ _).alloc (Nat.le_refl _) o).trans (h.mono (by simp))
end Go.Proofs.YtbpmjejmeaifbaaGreatDoor
namespace Go.Proofs.YtbpmjejmeaifbaaGreatDoor
open Go.RowKit
open Num
set_option linter.unusedVariables false
set_option maxHeartbeats 400000 in
set_option maxRecDepth 100000 in
theorem spec_piece (s : ByteArray) (w : World) (hs : s.size ≤ 1099511627776) :
    Calls Tryz.prog 73 #[.string s] w fun e w' => e = .returned (.string (pc s)) ∧ Below w.heap.size w w' := by
  have hv := var_size (s.size : Int)
  have kV := fun W => spec_var (s.size : Int) W
  have HP : Hid (pc s = var (s.size : Int) ++ s) := rfl
  generalize var (s.size : Int) = q at *
  have hno : ¬ 9223372036854775807 < q.size + s.size := by omega
  go_enter Tryz.func73, Tryz.ntmps73
  go_wp2_with fail
  refine (kV _).mono ?_
  rintro e w1 ⟨rfl, b1⟩
  go_wp2
  go_ret
  exact ⟨by rw [HP.out]; rfl, b1⟩
end Go.Proofs.YtbpmjejmeaifbaaGreatDoor
namespace Go.Proofs.YtbpmjejmeaifbaaGreatDoor
open Go.RowKit
open Num
set_option linter.unusedVariables false
set_option maxHeartbeats 1600000 in
set_option maxRecDepth 100000 in
theorem spec_show (x : H) (w : World) :
    Calls Tryz.prog 39 #[hV x] w fun e w' => e = .returned (.string (showH x)) ∧ Below w.heap.size w w' := by
  have kO := fun W => spec_ok x W
  have HS : Hid (Six (w.alloc (.cells (hcs x) 26)) w.heap.size x) := six_new w x 26
  have HB : Hid (Below w.heap.size w (w.alloc (.cells (hcs x) 26))) := (Below.refl _ _).alloc (Nat.le_refl _) _
  have hz : w.heap.size < (w.alloc (.cells (hcs x) 26)).heap.size := by simp
  rcases hO : hOk x with _ | _
  · rw [showH_no hO]
    rw [hO] at kO
    clear hO
    obtain ⟨h, t, a, v, n, d⟩ := x
    obtain ⟨x0, x1, x2, x3, x4, x5⟩ := HS.out
    unfold hV at *
    unfold hcs at *
    simp only at kO x0 x1 x2 x3 x4 x5 ⊢
    go_enter Tryz.func39, Tryz.ntmps39
    go_wp2_with fail
    refine (kO _).mono ?_
    rintro e w2 ⟨rfl, b2⟩
    go_wp2
    go_ret
    exact ⟨rfl, HB.out.trans (b2.mono HB.out.size)⟩
  · rw [showH_yes hO]
    rw [hO] at kO
    have ho := (hOk_iff x).1 hO
    have ha := hOk_a hO
    clear hO
    obtain ⟨h, t, a, v, n, d⟩ := x
    obtain ⟨_, _, _, _, _, o1, o2, o3⟩ := ho
    simp only at ha o1 o2 o3
    have HE : Hid (shH ⟨h, t, a, v, n, d⟩ = var h ++ var t ++ pc a ++ pc v ++ pc n ++ pc d) := rfl
    generalize shH ⟨h, t, a, v, n, d⟩ = R at *
    have z1 := var_size h
    have z2 := var_size t
    have z3 := pc_size a
    have z4 := pc_size v
    have z5 := pc_size n
    have z6 := pc_size d
    have e2 := ByteArray.size_append (a := var h) (b := var t)
    have e3 := ByteArray.size_append (a := var h ++ var t) (b := pc a)
    have e4 := ByteArray.size_append (a := var h ++ var t ++ pc a) (b := pc v)
    have e5 := ByteArray.size_append (a := var h ++ var t ++ pc a ++ pc v) (b := pc n)
    have m2 : ¬ 9223372036854775807 < (var h).size + (var t).size := by omega
    have m3 : ¬ 9223372036854775807 < (var h ++ var t).size + (pc a).size := by omega
    have m4 : ¬ 9223372036854775807 < (var h ++ var t ++ pc a).size + (pc v).size := by omega
    have m5 : ¬ 9223372036854775807 < (var h ++ var t ++ pc a ++ pc v).size + (pc n).size := by omega
    have m6 : ¬ 9223372036854775807 < (var h ++ var t ++ pc a ++ pc v ++ pc n).size + (pc d).size := by omega
    have y1 : a.size ≤ 1099511627776 := by omega
    have y2 : v.size ≤ 1099511627776 := by omega
    have y3 : n.size ≤ 1099511627776 := by omega
    have y4 : d.size ≤ 1099511627776 := by omega
    clear z1 z2 z3 z4 z5 z6 e2 e3 e4 e5 ha o1 o2 o3
    obtain ⟨x0, x1, x2, x3, x4, x5⟩ := HS.out
    unfold hV at *
    unfold hcs at *
    simp only at kO x0 x1 x2 x3 x4 x5 ⊢
    go_enter Tryz.func39, Tryz.ntmps39
    go_wp2_with fail
    generalize w.alloc (Obj.cells #[Value.int .i64 h, Value.int .i64 t, Value.string a, Value.string v, Value.string n, Value.string d] 26) = w1 at *
    refine (kO _).mono ?_
    rintro e w2 ⟨rfl, b2⟩
    have HB2 : Hid (Below w1.heap.size w1 w2) := b2
    clear b2 x0 x1 x2 x3 x4 x5 kO
    obtain ⟨x0, x1, x2, x3, x4, x5⟩ := HS.out.below HB2.out hz
    simp only at x0 x1 x2 x3 x4 x5
    have hne := bel_some w2
    have c0 := fun p : Bel w2 => p.cell x0
    have c1 := fun p : Bel w2 => p.cell x1
    have c2 := fun p : Bel w2 => p.cell x2
    have c3 := fun p : Bel w2 => p.cell x3
    have c4 := fun p : Bel w2 => p.cell x4
    have c5 := fun p : Bel w2 => p.cell x5
    clear x0 x1 x2 x3 x4 x5
    go_wp2_with fail
    refine wp_region_below (by kernel_rfl) (by kernel_rfl) ?_
    repeat (go_big_quiet_step (first | (go_at_call 72; exact bel_of (spec_var _ _)) | (go_at_call 73; exact bel_of (spec_piece _ _ (by assumption)))))
    refine wpQuiet_nil ?_
    intro _ hw'
    obtain ⟨pq, hw''⟩ := hw'
    subst hw''
    have HB3 : Hid (Below w1.heap.size w1 pq.W) := HB2.out.trans (pq.h.mono HB2.out.size)
    go_wp2
    go_ret
    exact ⟨by rw [HE.out]; rfl, HB.out.trans (HB3.out.mono HB.out.size)⟩
end Go.Proofs.YtbpmjejmeaifbaaGreatDoor
