/- Anchors: what they are in plain terms and in cells, and what the two AnchorOk answer; old memory stays. Conditions: what a machine can hold; the program's: the table of the hash. -/
import Derived.Test.YtajfmjgaaapjeaaGreatDoorVh
import Derived.Test.YtajfmjgaaapjeaaGreatDoorHp
import Derived.Test.YtajfmjgaaapjeaaGreatDoorG5
namespace Go.Proofs.YtajfmjgaaapjeaaGreatDoor
open Go.RowKit
open Num
set_option linter.unusedVariables false
/-- An anchor: its header, and the validators behind it. -/
structure An where
  x : H
  l : List V
def aOk (a : An) : Bool := hOk a.x && (vOk a.l && decide (hashV a.l = a.x.n))
theorem aOk_short (a : An) : aOk a = (hOk a.x && decide (a.x.n = hashV a.l)) := by
  unfold aOk
  cases h : hOk a.x with
  | false => rfl
  | true =>
    have h8 := ((hOk_iff a.x).1 h).2.2.2.2.2.2.2
    cases h2 : vOk a.l with
    | false =>
      have : ¬ a.x.n = hashV a.l := fun e => by
        have e2 : hashV a.l = ⟨#[]⟩ := by unfold hashV; rw [h2]; rfl
        rw [e, e2] at h8
        exact absurd h8 (by decide)
      simp [this]
    | true => simp [eq_comm]
theorem aOk_h {a : An} (h : aOk a = true) : hOk a.x = true := by
  unfold aOk at h
  cases h2 : hOk a.x with
  | false => rw [h2] at h; exact absurd h (by simp)
  | true => rfl
def acs (x : H) (q : Value) : List Value := [.int .i64 x.h, .int .i64 x.t, .string x.a, .string x.v, .string x.n, .string x.d, q]
def aV (x : H) (q : Value) : Value := .agg #[.int .i64 x.h, .int .i64 x.t, .string x.a, .string x.v, .string x.n, .string x.d, q]
set_option maxHeartbeats 1600000 in
set_option maxRecDepth 100000 in
theorem spec_anchor (x : H) (l : List V) (p : Option Addr) (cap : Nat) (w : World) (hl : VO w p l) (hlen : l.length ≤ 9223372036854775807) :
    Calls Tryz.prog 10 #[aV x (.slice p l.length cap)] w fun e w' => e = .returned (.bool (aOk ⟨x, l⟩)) ∧ Below w.heap.size w w' := by
  have H1 : Hid (Blk (w.alloc (.cells (acs x (.slice p l.length cap)).toArray 30)) w.heap.size (acs x (.slice p l.length cap)) 30) := blk_new w _ _
  have HB : Hid (Below w.heap.size w (w.alloc (.cells (acs x (.slice p l.length cap)).toArray 30))) := below_one _ _
  have HE : Hid (aOk ⟨x, l⟩ = (hOk x && (vOk l && decide (hashV l = x.n)))) := rfl
  have kH := fun q : Bel (w.alloc (.cells (acs x (.slice p l.length cap)).toArray 30)) => spec_ok x q.W
  have kV := fun q : Bel (w.alloc (.cells (acs x (.slice p l.length cap)).toArray 30)) => spec_okV p l cap q.W ((hl.below HB.out).below q.h) hlen
  have kS := fun q : Bel (w.alloc (.cells (acs x (.slice p l.length cap)).toArray 30)) => spec_vhash p l cap q.W ((hl.below HB.out).below q.h) hlen
  clear hl hlen
  generalize aOk ⟨x, l⟩ = R at *
  generalize hOk x = O1 at *
  generalize vOk l = O2 at *
  generalize hashV l = S at *
  generalize l.length = m at *
  obtain ⟨h, t, aa, v, n, d⟩ := x
  unfold aV
  unfold hV at *
  unfold acs at *
  simp only at *
  have hn := bel_some (w.alloc (.cells [Value.int .i64 h, .int .i64 t, .string aa, .string v, .string n, .string d, .slice p m cap].toArray 30))
  have c0 := fun q : Bel (w.alloc (.cells [Value.int .i64 h, .int .i64 t, .string aa, .string v, .string n, .string d, .slice p m cap].toArray 30)) => q.cell (H1.out.cell 0 rfl)
  have c1 := fun q : Bel (w.alloc (.cells [Value.int .i64 h, .int .i64 t, .string aa, .string v, .string n, .string d, .slice p m cap].toArray 30)) => q.cell (H1.out.cell 1 rfl)
  have c2 := fun q : Bel (w.alloc (.cells [Value.int .i64 h, .int .i64 t, .string aa, .string v, .string n, .string d, .slice p m cap].toArray 30)) => q.cell (H1.out.cell 2 rfl)
  have c3 := fun q : Bel (w.alloc (.cells [Value.int .i64 h, .int .i64 t, .string aa, .string v, .string n, .string d, .slice p m cap].toArray 30)) => q.cell (H1.out.cell 3 rfl)
  have c4 := fun q : Bel (w.alloc (.cells [Value.int .i64 h, .int .i64 t, .string aa, .string v, .string n, .string d, .slice p m cap].toArray 30)) => q.cell (H1.out.cell 4 rfl)
  have c5 := fun q : Bel (w.alloc (.cells [Value.int .i64 h, .int .i64 t, .string aa, .string v, .string n, .string d, .slice p m cap].toArray 30)) => q.cell (H1.out.cell 5 rfl)
  have c6 := fun q : Bel (w.alloc (.cells [Value.int .i64 h, .int .i64 t, .string aa, .string v, .string n, .string d, .slice p m cap].toArray 30)) => q.cell (H1.out.cell 6 rfl)
  clear H1
  rcases O1 with _ | _
  · skip
    go_enter Tryz.func10, Tryz.ntmps10
    go_wp2_with fail
    generalize w.alloc (Obj.cells #[Value.int IntKind.i64 h, Value.int IntKind.i64 t, Value.string aa, Value.string v, Value.string n, Value.string d, Value.slice p m cap] 30) = w1 at *
    refine wp_region_below (by kernel_rfl) (by kernel_rfl) ?_
    repeat (go_big_quiet_step ((first | (go_at_call 43; exact bel_of (kH _)) | (go_at_call 48; exact bel_of (kS _)) | (go_at_call 47; exact bel_of (kV _)))))
    refine wpQuiet_nil ?_
    intro _ hw'
    obtain ⟨pq, hw''⟩ := hw'
    subst hw''
    go_wp2
    go_ret
    exact ⟨by rw [HE.out]; simp, HB.out.trans (pq.h.mono HB.out.size)⟩
  rcases O2 with _ | _
  · skip
    go_enter Tryz.func10, Tryz.ntmps10
    go_wp2_with fail
    generalize w.alloc (Obj.cells #[Value.int IntKind.i64 h, Value.int IntKind.i64 t, Value.string aa, Value.string v, Value.string n, Value.string d, Value.slice p m cap] 30) = w1 at *
    refine wp_region_below (by kernel_rfl) (by kernel_rfl) ?_
    repeat (go_big_quiet_step ((first | (go_at_call 43; exact bel_of (kH _)) | (go_at_call 48; exact bel_of (kS _)) | (go_at_call 47; exact bel_of (kV _)))))
    refine wpQuiet_nil ?_
    intro _ hw'
    obtain ⟨pq, hw''⟩ := hw'
    subst hw''
    go_wp2
    go_ret
    exact ⟨by rw [HE.out]; simp, HB.out.trans (pq.h.mono HB.out.size)⟩
  · skip
    go_enter Tryz.func10, Tryz.ntmps10
    go_wp2_with fail
    generalize w.alloc (Obj.cells #[Value.int IntKind.i64 h, Value.int IntKind.i64 t, Value.string aa, Value.string v, Value.string n, Value.string d, Value.slice p m cap] 30) = w1 at *
    refine wp_region_below (by kernel_rfl) (by kernel_rfl) ?_
    repeat (go_big_quiet_step ((first | (go_at_call 43; exact bel_of (kH _)) | (go_at_call 48; exact bel_of (kS _)) | (go_at_call 47; exact bel_of (kV _)))))
    refine wpQuiet_nil ?_
    intro _ hw'
    obtain ⟨pq, hw''⟩ := hw'
    subst hw''
    go_wp2
    go_ret
    exact ⟨by rw [HE.out]; simp [beq_str], HB.out.trans (pq.h.mono HB.out.size)⟩
set_option maxHeartbeats 1600000 in
set_option maxRecDepth 100000 in
theorem impl_anchor (x : H) (l : List V) (p : Option Addr) (cap : Nat) (w : World) (hl : VO w p l) (hlen : l.length ≤ 9223372036854775807) (hT : Tab w) :
    Calls Tryz.prog 69 #[aV x (.slice p l.length cap)] w fun e w' => e = .returned (.bool (aOk ⟨x, l⟩)) ∧ Below w.heap.size w w' := by
  have H1 : Hid (Blk (w.alloc (.cells (acs x (.slice p l.length cap)).toArray 30)) w.heap.size (acs x (.slice p l.length cap)) 30) := blk_new w _ _
  have HB : Hid (Below w.heap.size w (w.alloc (.cells (acs x (.slice p l.length cap)).toArray 30))) := below_one _ _
  have HE : Hid (aOk ⟨x, l⟩ = (hOk x && decide (x.n = hashV l))) := aOk_short _
  have kH := fun q : Bel (w.alloc (.cells (acs x (.slice p l.length cap)).toArray 30)) => impl_ok x q.W
  have kS := fun q : Bel (w.alloc (.cells (acs x (.slice p l.length cap)).toArray 30)) => impl_vhash p l cap q.W ((hl.below HB.out).below q.h) hlen ((hT.below HB.out hT.pos).below q.h (Nat.lt_of_lt_of_le hT.pos HB.out.size))
  clear hl hlen hT
  generalize aOk ⟨x, l⟩ = R at *
  generalize hOk x = O1 at *
  generalize hashV l = S at *
  generalize l.length = m at *
  obtain ⟨h, t, aa, v, n, d⟩ := x
  unfold aV
  unfold hV at *
  unfold acs at *
  simp only at *
  have hn := bel_some (w.alloc (.cells [Value.int .i64 h, .int .i64 t, .string aa, .string v, .string n, .string d, .slice p m cap].toArray 30))
  have c0 := fun q : Bel (w.alloc (.cells [Value.int .i64 h, .int .i64 t, .string aa, .string v, .string n, .string d, .slice p m cap].toArray 30)) => q.cell (H1.out.cell 0 rfl)
  have c1 := fun q : Bel (w.alloc (.cells [Value.int .i64 h, .int .i64 t, .string aa, .string v, .string n, .string d, .slice p m cap].toArray 30)) => q.cell (H1.out.cell 1 rfl)
  have c2 := fun q : Bel (w.alloc (.cells [Value.int .i64 h, .int .i64 t, .string aa, .string v, .string n, .string d, .slice p m cap].toArray 30)) => q.cell (H1.out.cell 2 rfl)
  have c3 := fun q : Bel (w.alloc (.cells [Value.int .i64 h, .int .i64 t, .string aa, .string v, .string n, .string d, .slice p m cap].toArray 30)) => q.cell (H1.out.cell 3 rfl)
  have c4 := fun q : Bel (w.alloc (.cells [Value.int .i64 h, .int .i64 t, .string aa, .string v, .string n, .string d, .slice p m cap].toArray 30)) => q.cell (H1.out.cell 4 rfl)
  have c5 := fun q : Bel (w.alloc (.cells [Value.int .i64 h, .int .i64 t, .string aa, .string v, .string n, .string d, .slice p m cap].toArray 30)) => q.cell (H1.out.cell 5 rfl)
  have c6 := fun q : Bel (w.alloc (.cells [Value.int .i64 h, .int .i64 t, .string aa, .string v, .string n, .string d, .slice p m cap].toArray 30)) => q.cell (H1.out.cell 6 rfl)
  clear H1
  rcases O1 with _ | _
  · skip
    go_enter Tryz.func69, Tryz.ntmps69
    go_wp2_with fail
    generalize w.alloc (Obj.cells #[Value.int IntKind.i64 h, Value.int IntKind.i64 t, Value.string aa, Value.string v, Value.string n, Value.string d, Value.slice p m cap] 30) = w1 at *
    refine wp_region_below (by kernel_rfl) (by kernel_rfl) ?_
    repeat (go_big_quiet_step ((first | (go_at_call 70; exact bel_of (kH _)) | (go_at_call 74; exact bel_of (kS _)))))
    refine wpQuiet_nil ?_
    intro _ hw'
    obtain ⟨pq, hw''⟩ := hw'
    subst hw''
    go_wp2
    go_ret
    exact ⟨by rw [HE.out]; simp, HB.out.trans (pq.h.mono HB.out.size)⟩
  · skip
    go_enter Tryz.func69, Tryz.ntmps69
    go_wp2_with fail
    generalize w.alloc (Obj.cells #[Value.int IntKind.i64 h, Value.int IntKind.i64 t, Value.string aa, Value.string v, Value.string n, Value.string d, Value.slice p m cap] 30) = w1 at *
    refine wp_region_below (by kernel_rfl) (by kernel_rfl) ?_
    repeat (go_big_quiet_step ((first | (go_at_call 70; exact bel_of (kH _)) | (go_at_call 74; exact bel_of (kS _)))))
    refine wpQuiet_nil ?_
    intro _ hw'
    obtain ⟨pq, hw''⟩ := hw'
    subst hw''
    go_wp2
    go_ret
    exact ⟨by rw [HE.out]; simp [beq_str], HB.out.trans (pq.h.mono HB.out.size)⟩
end Go.Proofs.YtajfmjgaaapjeaaGreatDoor
