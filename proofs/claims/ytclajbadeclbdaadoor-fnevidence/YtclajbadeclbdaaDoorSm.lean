/- What the program's signedVote.made answers; old memory stays. Conditions: the table. -/
import Derived.Test.YtclajbadeclbdaaDoorSd
namespace Go.Proofs.YtclajbadeclbdaaDoor
open Go.RowKit
open Num
set_option linter.unusedVariables false
/-- A vote with a signature. -/
def svV (x : Vt) (t : ByteArray) : Value := .agg #[.int .i64 x.h, .int .i64 x.r, .int .i64 x.s, .string x.i, .int .i64 x.v, .string t]
def scs (x : Vt) (t : ByteArray) : List Value := [.int .i64 x.h, .int .i64 x.r, .int .i64 x.s, .string x.i, .int .i64 x.v, .string t]
def zVt : Vt := ⟨0, 0, 0, ⟨#[]⟩, 0⟩
set_option maxRecDepth 100000 in
set_option maxHeartbeats 1600000 in
theorem impl_made (x : Vt) (t : ByteArray) (w : World) (hT : Tab w) :
    Calls Tryd.prog 84 #[svV x t] w fun e w' => e = .returned (svV x (sgn x.v (dig x))) ∧ Below w.heap.size w w' := by
  have HT : Hid (Tab w) := hT
  clear hT
  have kD := fun W => impl_dig x W
  have kG := fun W (h : Tab W) => impl_sgn x.v (dig x) W (by have := dig_size x; omega) h
  have HX : Hid (Blk ((w.alloc (.cells (scs x t).toArray 116)).alloc (.cells (scs zVt ⟨#[]⟩).toArray 116)) w.heap.size (scs x t) 116) := (blk_new w _ _).alloc _
  have HR : Hid (Blk ((w.alloc (.cells (scs x t).toArray 116)).alloc (.cells (scs zVt ⟨#[]⟩).toArray 116)) (w.heap.size + 1) (scs zVt ⟨#[]⟩) 116) := by
    have h := blk_new (w.alloc (.cells (scs x t).toArray 116)) (scs zVt ⟨#[]⟩) 116
    have e : (w.alloc (.cells (scs x t).toArray 116)).heap.size = w.heap.size + 1 := by simp
    rw [e] at h; exact h
  have HB : Hid (Below w.heap.size w ((w.alloc (.cells (scs x t).toArray 116)).alloc (.cells (scs zVt ⟨#[]⟩).toArray 116))) := ((Below.refl _ _).alloc (Nat.le_refl _) _).alloc (by simp) _
  have hz : ((w.alloc (.cells (scs x t).toArray 116)).alloc (.cells (scs zVt ⟨#[]⟩).toArray 116)).heap.size = w.heap.size + 2 := by simp
  generalize sgn x.v (dig x) = G at *
  generalize dig x = D at *
  obtain ⟨h, r, s, i, v⟩ := x
  unfold svV
  unfold tV at *
  unfold scs zVt at *
  simp only at kD kG hz ⊢
  go_enter Tryd.func84, Tryd.ntmps84
  go_wp2_with fail
  generalize (w.alloc (Obj.cells #[Value.int .i64 h, Value.int .i64 r, Value.int .i64 s, Value.string i, Value.int .i64 v, Value.string t] 116)).alloc (Obj.cells #[Value.int .i64 0, Value.int .i64 0, Value.int .i64 0, Value.string ⟨#[]⟩, Value.int .i64 0, Value.string ⟨#[]⟩] 116) = w1 at *
  have x0 := HX.out.cell 0 rfl
  have x1 := HX.out.cell 1 rfl
  have x2 := HX.out.cell 2 rfl
  have x3 := HX.out.cell 3 rfl
  have x4 := HX.out.cell 4 rfl
  have HXd : Hid (Blk w1.drew w.heap.size [.int .i64 h, .int .i64 r, .int .i64 s, .string i, .int .i64 v, .string t] 116) := HX.out
  have HRd : Hid (Blk w1.drew (w.heap.size + 1) [.int .i64 0, .int .i64 0, .int .i64 0, .string ⟨#[]⟩, .int .i64 0, .string ⟨#[]⟩] 116) := HR.out
  have HBd : Hid (Below w.heap.size w w1.drew) := HB.out.drew
  clear HX HR HB hz
  go_region_with (first
    | (go_at_call 100; refine (kD _).mono ?_; rintro e w2 ⟨rfl, b2⟩; have HX2 : Hid (Blk w2 w.heap.size [.int .i64 h, .int .i64 r, .int .i64 s, .string i, .int .i64 v, .string t] 116) := HXd.out.below b2 HXd.out.lt; have HR2 : Hid (Blk w2 (w.heap.size + 1) [.int .i64 0, .int .i64 0, .int .i64 0, .string ⟨#[]⟩, .int .i64 0, .string ⟨#[]⟩] 116) := HRd.out.below b2 HRd.out.lt; have HB2 : Hid (Below w.heap.size w w2) := HBd.out.trans (b2.mono HBd.out.size); clear b2; have y4 := HX2.out.cell 4 rfl)
    | (go_at_call 99; refine (kG _ (HT.out.below HB2.out HT.out.pos)).mono ?_; rintro e w3 ⟨rfl, b3⟩; have HX3 : Hid (Blk w3 w.heap.size [.int .i64 h, .int .i64 r, .int .i64 s, .string i, .int .i64 v, .string t] 116) := HX2.out.below b3 HX2.out.lt; have HR3 : Hid (Blk w3 (w.heap.size + 1) [.int .i64 0, .int .i64 0, .int .i64 0, .string ⟨#[]⟩, .int .i64 0, .string ⟨#[]⟩] 116) := HR2.out.below b3 HR2.out.lt; have HB3 : Hid (Below w.heap.size w w3) := HB2.out.trans (b3.mono HB2.out.size); clear b3; have z5 := HX3.out.cell 5 rfl; have zf := HX3.out.frozen 5))
  all_goals
    have HX4 : Hid (Blk (w3.setCell ⟨w.heap.size, 5, none⟩ (.string G)) w.heap.size [.int .i64 h, .int .i64 r, .int .i64 s, .string i, .int .i64 v, .string G] 116) := HX3.out.set 5 _
    have HR4 : Hid (Blk (w3.setCell ⟨w.heap.size, 5, none⟩ (.string G)) (w.heap.size + 1) [.int .i64 0, .int .i64 0, .int .i64 0, .string ⟨#[]⟩, .int .i64 0, .string ⟨#[]⟩] 116) := HR3.out.other 5 _ (by omega)
    have HB4 : Hid (Below w.heap.size w (w3.setCell ⟨w.heap.size, 5, none⟩ (.string G))) := HB3.out.setCell (Nat.le_refl _) _
    clear x0 x1 x2 x3 x4 y4 z5 zf HX3 HR3 HB3 HX2 HR2 HB2 HXd HRd HBd
    generalize w3.setCell ⟨w.heap.size, 5, none⟩ (.string G) = w4 at *
    have q0 := HX4.out.cell 0 rfl
    have q1 := HX4.out.cell 1 rfl
    have q2 := HX4.out.cell 2 rfl
    have q3 := HX4.out.cell 3 rfl
    have q4 := HX4.out.cell 4 rfl
    have q5 := HX4.out.cell 5 rfl
    have p0 := HR4.out.cell 0 rfl
    have p1 := HR4.out.cell 1 rfl
    have p2 := HR4.out.cell 2 rfl
    have p3 := HR4.out.cell 3 rfl
    have p4 := HR4.out.cell 4 rfl
    have p5 := HR4.out.cell 5 rfl
    have pf := fun j => HR4.out.frozen j
    go_wp2
    have HR5 := (((((HR4.out.set 0 (.int .i64 h)).set 1 (.int .i64 r)).set 2 (.int .i64 s)).set 3 (.string i)).set 4 (.int .i64 v)).set 5 (.string G)
    have HB5 := (((((HB4.out.setCell (p := ⟨w.heap.size + 1, 0, none⟩) (Nat.le_succ _) (.int .i64 h)).setCell (p := ⟨w.heap.size + 1, 1, none⟩) (Nat.le_succ _) (.int .i64 r)).setCell (p := ⟨w.heap.size + 1, 2, none⟩) (Nat.le_succ _) (.int .i64 s)).setCell (p := ⟨w.heap.size + 1, 3, none⟩) (Nat.le_succ _) (.string i)).setCell (p := ⟨w.heap.size + 1, 4, none⟩) (Nat.le_succ _) (.int .i64 v)).setCell (p := ⟨w.heap.size + 1, 5, none⟩) (Nat.le_succ _) (.string G)
    clear q0 q1 q2 q3 q4 q5 p0 p1 p2 p3 p4 p5
    have y0 := HR5.cell 0 rfl
    have y1 := HR5.cell 1 rfl
    have y2 := HR5.cell 2 rfl
    have y3 := HR5.cell 3 rfl
    have y4 := HR5.cell 4 rfl
    have y5 := HR5.cell 5 rfl
    refine bodyPost_ret (v := .agg #[.int .i64 h, .int .i64 r, .int .i64 s, .string i, .int .i64 v, .string G]) ?_ rfl ⟨rfl, HB5⟩
    generalize ((((((w4.setCell _ _).setCell _ _).setCell _ _).setCell _ _).setCell _ _).setCell _ _ : World) = W at *
    clear HB5 HR5
    simp [results, Tryd.results84, go_sem, y0, y1, y2, y3, y4, y5]
end Go.Proofs.YtclajbadeclbdaaDoor
