/- What the program's Signed answers; old memory stays. Conditions: the table. -/
import Derived.Test.YtclajbadeclbdaaDoorSm
import Derived.Laws.StructEq
namespace Go.Proofs.YtclajbadeclbdaaDoor
open Go.RowKit
open Num
set_option linter.unusedVariables false
set_option maxRecDepth 100000 in
theorem stoodS : Tryd.prog.stoodInHeld 116 = false := by kernel_rfl
set_option maxRecDepth 100000 in
theorem guardS : Tryd.prog.eqGuardType Tryd.prog.depth 116 = false := by kernel_rfl
set_option maxRecDepth 100000 in
theorem fieldsS : Tryd.prog.underlying 116 = some (.struct (Tryd.prog.fieldsOf 116)) := by
  unfold Program.fieldsOf; rw [Tryd.underlying116]
set_option maxRecDepth 100000 in
theorem run_eqS (h r s v : Int) (i t G : ByteArray) (w : World) :
    (binOp .eql 116 (.agg #[.int .i64 h, .int .i64 r, .int .i64 s, .string i, .int .i64 v, .string t]) (.agg #[.int .i64 h, .int .i64 r, .int .i64 s, .string i, .int .i64 v, .string G])).run Tryd.prog w = .ok (.bool (t.toList == G.toList)) w := by
  rw [run_eql_struct, run_equalIn_agg w 9999 116 _ _ fieldsS stoodS]
  simp [go_sem, Program.fieldsOf, Tryd.underlying116, Tryd.underlying30, Tryd.underlying3, Tryd.underlying9, Op.eqFields]
  by_cases h : t.toList = G.toList <;> simp [h]
set_option maxRecDepth 100000 in
set_option maxHeartbeats 1600000 in
theorem impl_sd (x : Vt) (t : ByteArray) (w : World) (hT : Tab w) :
    Calls Tryd.prog 59 #[tV x, .string t] w fun e w' => e = .returned (.bool (sdB x t)) ∧ Below w.heap.size w w' := by
  have HT : Hid (Tab w) := hT
  clear hT
  have kO := fun W => impl_vok x W
  have kM := fun W (h : Tab W) => impl_made x t W h
  have HX : Hid (Blk ((w.alloc (.cells (tcs x).toList.toArray 30)).alloc (.cells (scs x t).toArray 116)) w.heap.size (tcs x).toList 30) := (blk_new w _ _).alloc _
  have HR : Hid (Blk ((w.alloc (.cells (tcs x).toList.toArray 30)).alloc (.cells (scs x t).toArray 116)) (w.heap.size + 1) (scs x t) 116) := by
    have h := blk_new (w.alloc (.cells (tcs x).toList.toArray 30)) (scs x t) 116
    have e : (w.alloc (.cells (tcs x).toList.toArray 30)).heap.size = w.heap.size + 1 := by simp
    rw [e] at h; exact h
  have HB : Hid (Below w.heap.size w ((w.alloc (.cells (tcs x).toList.toArray 30)).alloc (.cells (scs x t).toArray 116))) := ((Below.refl _ _).alloc (Nat.le_refl _) _).alloc (by simp) _
  rcases hO : voB x with _ | _
  · rw [sd_no hO]
    rw [hO] at kO
    clear hO kM
    obtain ⟨h, r, s, i, v⟩ := x
    unfold tV at *
    unfold tcs scs at *
    simp only at kO ⊢
    go_enter Tryd.func59, Tryd.ntmps59
    go_wp2_with fail
    generalize (w.alloc (Obj.cells #[Value.int .i64 h, Value.int .i64 r, Value.int .i64 s, Value.string i, Value.int .i64 v] 30)).alloc (Obj.cells #[Value.int .i64 h, Value.int .i64 r, Value.int .i64 s, Value.string i, Value.int .i64 v, Value.string t] 116) = w1 at *
    have hne := bel_some w1
    have HT1 : Hid (Tab w1) := HT.out.below HB.out HT.out.pos
    have c0 := fun p : Bel w1 => p.cell (HX.out.cell 0 rfl)
    have c1 := fun p : Bel w1 => p.cell (HX.out.cell 1 rfl)
    have c2 := fun p : Bel w1 => p.cell (HX.out.cell 2 rfl)
    have c3 := fun p : Bel w1 => p.cell (HX.out.cell 3 rfl)
    have c4 := fun p : Bel w1 => p.cell (HX.out.cell 4 rfl)
    refine wp_region_below (by kernel_rfl) (by kernel_rfl) ?_
    repeat (go_big_quiet_step ((go_at_call 83; exact bel_of (kO _))))
    refine wpQuiet_nil ?_
    intro _ hw'
    obtain ⟨pq, hw''⟩ := hw'
    subst hw''
    have HB3 : Hid (Below w.heap.size w pq.W) := HB.out.trans (pq.h.mono HB.out.size)
    go_wp2
    go_ret
    exact ⟨rfl, HB3.out⟩
  · have HE : Hid (sdB x t = decide (t = sgn x.v (dig x))) := sd_yes hO
    generalize sdB x t = R at *
    generalize sgn x.v (dig x) = G at *
    rw [hO] at kO
    clear hO
    obtain ⟨h, r, s, i, v⟩ := x
    unfold tV svV at *
    unfold tcs scs at *
    simp only at kO kM ⊢
    go_enter Tryd.func59, Tryd.ntmps59
    go_wp2_with fail
    generalize (w.alloc (Obj.cells #[Value.int .i64 h, Value.int .i64 r, Value.int .i64 s, Value.string i, Value.int .i64 v] 30)).alloc (Obj.cells #[Value.int .i64 h, Value.int .i64 r, Value.int .i64 s, Value.string i, Value.int .i64 v, Value.string t] 116) = w1 at *
    have hne := bel_some w1
    have HT1 : Hid (Tab w1) := HT.out.below HB.out HT.out.pos
    have c0 := fun p : Bel w1 => p.cell (HX.out.cell 0 rfl)
    have c1 := fun p : Bel w1 => p.cell (HX.out.cell 1 rfl)
    have c2 := fun p : Bel w1 => p.cell (HX.out.cell 2 rfl)
    have c3 := fun p : Bel w1 => p.cell (HX.out.cell 3 rfl)
    have c4 := fun p : Bel w1 => p.cell (HX.out.cell 4 rfl)
    have hgS := guardS
    have hqS := fun W : World => run_eqS h r s v i t G W
    have d0 := fun p : Bel w1 => p.cell (HR.out.cell 0 rfl)
    have d1 := fun p : Bel w1 => p.cell (HR.out.cell 1 rfl)
    have d2 := fun p : Bel w1 => p.cell (HR.out.cell 2 rfl)
    have d3 := fun p : Bel w1 => p.cell (HR.out.cell 3 rfl)
    have d4 := fun p : Bel w1 => p.cell (HR.out.cell 4 rfl)
    have d5 := fun p : Bel w1 => p.cell (HR.out.cell 5 rfl)
    refine wp_region_below (by kernel_rfl) (by kernel_rfl) ?_
    repeat (go_big_quiet_step (first | (go_at_call 83; exact bel_of (kO _)) | (go_at_call 84; exact bel_of (kM _ (HT1.out.below (Bel.h _) HT1.out.pos)))))
    refine wpQuiet_nil ?_
    intro _ hw'
    obtain ⟨pq, hw''⟩ := hw'
    subst hw''
    have HB3 : Hid (Below w.heap.size w pq.W) := HB.out.trans (pq.h.mono HB.out.size)
    go_wp2
    go_ret
    exact ⟨by rw [HE.out, ← beq_str]; rfl, HB3.out⟩
end Go.Proofs.YtclajbadeclbdaaDoor
