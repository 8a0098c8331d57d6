/- What cmp.Compare at numbers, Val.id and the comparison that inOrder hands on answer; old memory stays. Conditions: none of ours. -/
import Derived.Test.YtaeokecodejpdaaVl
namespace Go.Proofs.Ytaeokecodejpdaa
open Go.RowKit
open Num
set_option linter.unusedVariables false
/-- How two numbers compare. -/
def cmpI (x y : Int) : Int := if x < y then -1 else if y < x then 1 else 0
theorem cmpI_neg (x y : Int) : cmpI x y < 0 ↔ x < y := by
  unfold cmpI
  split
  · simp; assumption
  · split <;> simp <;> omega
set_option maxHeartbeats 400000 in
theorem nan_any (x : Int) (w : World) : Calls Try.prog 28 #[.int .i64 x] w fun e w' => e = .returned (.bool false) ∧ w' = w := by
  go_enter Try.func28, Try.ntmps28
  go_wp2
  go_ret
  exact ⟨rfl, rfl⟩
set_option maxHeartbeats 400000 in
theorem cmp_any (x y : Int) (w : World) : Calls Try.prog 25 #[.int .i64 x, .int .i64 y] w fun e w' => e = .returned (.int .i64 (cmpI x y)) ∧ w' = w := by
  have HI : Hid (cmpI x y = if x < y then -1 else if y < x then 1 else 0) := rfl
  by_cases h1 : x < y
  · go_enter Try.func25, Try.ntmps25
    go_wp2_with (go_at_call 28; refine (nan_any _ _).mono ?_; rintro e w' ⟨rfl, rfl⟩)
    go_ret
    exact ⟨by rw [HI.out, if_pos h1]; rfl, rfl⟩
  · by_cases h2 : y < x
    · go_enter Try.func25, Try.ntmps25
      go_wp2_with (go_at_call 28; refine (nan_any _ _).mono ?_; rintro e w' ⟨rfl, rfl⟩)
      go_ret
      exact ⟨by rw [HI.out, if_neg (by omega), if_pos h2]; rfl, rfl⟩
    · go_enter Try.func25, Try.ntmps25
      go_wp2_with (go_at_call 28; refine (nan_any _ _).mono ?_; rintro e w' ⟨rfl, rfl⟩)
      go_ret
      exact ⟨by rw [HI.out, if_neg (by omega), if_neg (by omega)]; rfl, rfl⟩
set_option maxHeartbeats 400000 in
theorem id_any (x y : Int) (w : World) :
    Calls Try.prog 18 #[.agg #[.int .i64 x, .int .i64 y]] w fun e w' => e = .returned (.int .i64 x) ∧ Below w.heap.size w w' := by
  go_enter Try.func18, Try.ntmps18
  go_wp2
  go_ret
  exact ⟨rfl, (Below.refl _ _).alloc (Nat.le_refl _) _⟩
/-- The variable that the comparison holds on to: the number of a row. -/
def CF (w : World) (c : Nat) : Prop := w.cell? ⟨c, 0, none⟩ = some (.func (.func 18) #[] #[])
theorem CF.below {w w' : World} {c : Nat} (h : CF w c) (hb : Below w.heap.size w w') : CF w' c := by
  unfold CF at h ⊢
  rw [hb.cell (World.block_lt_of_cell? w _ h)]; exact h
set_option maxHeartbeats 400000 in
theorem less_any (x y : V) (c : Nat) (w : World) (hc : CF w c) :
    Calls Try.prog 24 #[.agg #[.int .i64 x.i, .int .i64 x.p], .agg #[.int .i64 y.i, .int .i64 y.p], .pointer (some ⟨c, 0, none⟩)] w fun e w' => e = .returned (.int .i64 (cmpI x.i y.i)) ∧ Below w.heap.size w w' := by
  have hb2 : Below w.heap.size w ((w.alloc (.cells #[.int .i64 x.i, .int .i64 x.p] 34)).alloc (.cells #[.int .i64 y.i, .int .i64 y.p] 34)) := ((Below.refl _ _).alloc (Nat.le_refl _) _).alloc (by simp) _
  have d1 : ((w.alloc (.cells #[.int .i64 x.i, .int .i64 x.p] 34)).alloc (.cells #[.int .i64 y.i, .int .i64 y.p] 34)).cell? ⟨w.heap.size, 0, none⟩ = some (.int .i64 x.i) := by simp
  have d2 : ((w.alloc (.cells #[.int .i64 x.i, .int .i64 x.p] 34)).alloc (.cells #[.int .i64 y.i, .int .i64 y.p] 34)).cell? ⟨w.heap.size, 1, none⟩ = some (.int .i64 x.p) := by simp
  have d3 : ((w.alloc (.cells #[.int .i64 x.i, .int .i64 x.p] 34)).alloc (.cells #[.int .i64 y.i, .int .i64 y.p] 34)).cell? ⟨w.heap.size + 1, 0, none⟩ = some (.int .i64 y.i) := by simp
  have d4 : ((w.alloc (.cells #[.int .i64 x.i, .int .i64 x.p] 34)).alloc (.cells #[.int .i64 y.i, .int .i64 y.p] 34)).cell? ⟨w.heap.size + 1, 1, none⟩ = some (.int .i64 y.p) := by simp
  have d5 := hc.below hb2
  unfold CF at d5
  clear hc
  go_enter Try.func24, Try.ntmps24
  go_wp2_with fail
  generalize (w.alloc (.cells #[.int .i64 x.i, .int .i64 x.p] 34)).alloc (.cells #[.int .i64 y.i, .int .i64 y.p] 34) = wn at *
  have hne := bel_some wn
  have c1 := fun p : Bel wn => p.cell d1
  have c2 := fun p : Bel wn => p.cell d2
  have c3 := fun p : Bel wn => p.cell d3
  have c4 := fun p : Bel wn => p.cell d4
  have c5 := fun p : Bel wn => p.cell d5
  clear d1 d2 d3 d4 d5
  refine wp_region_below (by kernel_rfl) (by kernel_rfl) ?_
  repeat (go_big_quiet_step (first | (go_at_call 18; exact bel_of (id_any _ _ _)) | (go_at_call 25; exact bel_of_same (cmp_any _ _ _))))
  refine wpQuiet_nil ?_
  intro _ hw'
  obtain ⟨pq, hw''⟩ := hw'
  subst hw''
  have hb3 := hb2.trans (pq.h.mono hb2.size)
  go_wp2
  go_ret
  exact ⟨rfl, hb3⟩
end Go.Proofs.Ytaeokecodejpdaa
