/- Trust in plain terms, and what spec.TrustOk, l10Time, impl.TrustOk, Expires and the laws' toTrust answer; old memory stays. Conditions: none of ours. -/
import Derived.Test.YtajfmjgaaapjeaaGreatDoorHo
import Derived.Laws.StructEq
namespace Go.Proofs.YtajfmjgaaapjeaaGreatDoor
open Go.RowKit
open Num
set_option linter.unusedVariables false
/-- A trust: its period and its slack. -/
structure Tr where
  p : Int
  s : Int
def tOk (t : Tr) : Bool := inIs t.p 1 100000 && inIs t.s 0 1000
theorem tOk_iff (t : Tr) : tOk t = true ↔ (1 ≤ t.p ∧ t.p ≤ 100000) ∧ (0 ≤ t.s ∧ t.s ≤ 1000) := by unfold tOk; rw [Bool.and_eq_true, in_iff, in_iff]
theorem tOk_no {t : Tr} (h : ¬ ((1 ≤ t.p ∧ t.p ≤ 100000) ∧ (0 ≤ t.s ∧ t.s ≤ 1000))) : tOk t = false := by
  cases e : tOk t with
  | false => rfl
  | true => exact absurd ((tOk_iff t).1 e) h
def isT (x : Int) : Bool := inIs x 0 1000000
def expT (t : Tr) (x : Int) : Int := if tOk t = true ∧ isT x = true then x + t.p else -1
theorem expT_yes {t : Tr} {x : Int} (h1 : tOk t = true) (h2 : isT x = true) : expT t x = x + t.p := if_pos ⟨h1, h2⟩
theorem expT_no {t : Tr} {x : Int} (h : tOk t = false ∨ isT x = false) : expT t x = -1 := by
  refine if_neg fun hc => ?_
  rcases h with h | h
  · rw [h] at hc; exact absurd hc.1 (by simp)
  · rw [h] at hc; exact absurd hc.2 (by simp)
theorem expT_bound (t : Tr) (x : Int) : -1 ≤ expT t x ∧ expT t x ≤ 1100000 := by
  unfold expT
  split
  · rename_i h
    have h1 := (tOk_iff t).1 h.1
    have h2 := (in_iff x 0 1000000).1 h.2
    omega
  · omega
/-- The nearest trust within the limits. -/
def near (t : Tr) : Tr := ⟨max 1 (min t.p 100000), max 0 (min t.s 1000)⟩
theorem near_ok (t : Tr) : tOk t = ((t.p == (near t).p) && (t.s == (near t).s)) := by
  have h : tOk t = true ↔ t.p = (near t).p ∧ t.s = (near t).s := by
    rw [tOk_iff]
    show _ ↔ t.p = max 1 (min t.p 100000) ∧ t.s = max 0 (min t.s 1000)
    omega
  cases e : tOk t with
  | true => have := h.1 e; simp [← this.1, ← this.2]
  | false =>
    cases e2 : ((t.p == (near t).p) && (t.s == (near t).s)) with
    | false => rfl
    | true =>
      rw [Bool.and_eq_true, beq_iff_eq, beq_iff_eq] at e2
      rw [h.2 e2] at e
      exact absurd e (by simp)
/-- A trust as a value, and its cells. -/
def trV (t : Tr) : Value := .agg #[.int .i64 t.p, .int .i64 t.s]
def trcs (t : Tr) : Array Value := #[.int .i64 t.p, .int .i64 t.s]
def Two (W : World) (g : Nat) (t : Tr) : Prop := W.cell? ⟨g, 0, none⟩ = some (.int .i64 t.p) ∧ W.cell? ⟨g, 1, none⟩ = some (.int .i64 t.s)
theorem two_new (w : World) (t : Tr) (ty : TypeId) : Two (w.alloc (.cells (trcs t) ty)) w.heap.size t := by
  unfold Two trcs; simp
theorem Two.below {W W' : World} {g B : Nat} {t : Tr} (h : Two W g t) (hb : Below B W W') (hg : g < B) : Two W' g t :=
  ⟨by rw [hb.cell hg]; exact h.1, by rw [hb.cell hg]; exact h.2⟩
/-- A trust lies in block g; old memory stands. -/
def Trw (w W : World) (g : Nat) (t : Tr) : Prop := Below w.heap.size w W ∧ g < W.heap.size ∧ Two W g t
theorem trw_new (w : World) (t : Tr) (ty : TypeId) : Trw w (w.alloc (.cells (trcs t) ty)) w.heap.size t :=
  ⟨(Below.refl _ _).alloc (Nat.le_refl _) _, by simp, two_new w t ty⟩
theorem Trw.step {w W W' : World} {g : Nat} {t : Tr} (h : Trw w W g t) (hb : Below W.heap.size W W') : Trw w W' g t :=
  ⟨h.1.trans (hb.mono h.1.size), Nat.lt_of_lt_of_le h.2.1 hb.size, h.2.2.below hb h.2.1⟩
theorem Trw.drewN {w W : World} {g : Nat} {t : Tr} (h : Trw w W g t) (n : Nat) : Trw w (W.drewN n) g t := h.step (below_drewN (Below.refl _ _) n)
set_option maxHeartbeats 800000 in
set_option maxRecDepth 100000 in
theorem spec_time (x : Int) (w : World) :
    Calls Tryz.prog 44 #[.int .i64 x] w fun e w' => e = .returned (.bool (isT x)) ∧ w' = w := by
  have k : ∀ W, Calls Tryz.prog 79 #[.int .i64 x, .int .i64 0, .int .i64 1000000] W fun e w' => e = .returned (.bool (isT x)) ∧ w' = W := fun W => spec_in x 0 1000000 W
  generalize isT x = b at *
  go_enter Tryz.func44, Tryz.ntmps44
  go_wp2_with fail
  refine (k _).mono ?_
  rintro e w1 ⟨rfl, rfl⟩
  go_wp2
  go_ret
  exact ⟨rfl, rfl⟩
set_option maxHeartbeats 800000 in
set_option maxRecDepth 100000 in
theorem spec_tok (t : Tr) (w : World) :
    Calls Tryz.prog 42 #[trV t] w fun e w' => e = .returned (.bool (tOk t)) ∧ Below w.heap.size w w' := by
  have k1 := fun W => spec_in t.p 1 100000 W
  have k2 := fun W => spec_in t.s 0 1000 W
  have HT : tOk t = (inIs t.p 1 100000 && inIs t.s 0 1000) := rfl
  have H1 : Hid (Trw w (w.alloc (.cells (trcs t) 25)) w.heap.size t) := trw_new w t 25
  generalize inIs t.p 1 100000 = b1 at *
  generalize inIs t.s 0 1000 = b2 at *
  rw [HT]
  clear HT
  obtain ⟨p, s⟩ := t
  unfold trV
  unfold trcs at *
  obtain ⟨B1, _, x0, x1⟩ := H1.out
  simp only at *
  rcases b1 with _ | _
  · go_enter Tryz.func42, Tryz.ntmps42
    go_wp2_with fail
    refine (k1 _).mono ?_
    rintro e w1 ⟨rfl, rfl⟩
    go_wp2
    go_ret
    exact ⟨rfl, B1⟩
  · go_enter Tryz.func42, Tryz.ntmps42
    go_wp2_with fail
    refine (k1 _).mono ?_
    rintro e w1 ⟨rfl, rfl⟩
    go_wp2_with fail
    refine (k2 _).mono ?_
    rintro e w1 ⟨rfl, rfl⟩
    go_wp2
    go_ret
    exact ⟨rfl, B1⟩
theorem impl_time (x : Int) (w : World) :
    Calls Tryz.prog 71 #[.int .i64 x] w fun e w' => e = .returned (.bool (isT x)) ∧ w' = w := impl_isT x w
set_option maxHeartbeats 800000 in
set_option maxRecDepth 100000 in
theorem impl_near (t : Tr) (w : World) :
    Calls Tryz.prog 92 #[trV t] w fun e w' => e = .returned (trV (near t)) ∧ Below w.heap.size w w' := by
  have H1 : Hid (Trw w (w.alloc (.cells (trcs t) 25)) w.heap.size t) := trw_new w t 25
  have HP : Hid (near t = ⟨if 1 < (if 100000 < t.p then 100000 else t.p) then (if 100000 < t.p then 100000 else t.p) else 1, if 0 < (if 1000 < t.s then 1000 else t.s) then (if 1000 < t.s then 1000 else t.s) else 0⟩) := by
    show near t = _
    unfold near
    congr 1
    · repeat' split
      all_goals omega
    · repeat' split
      all_goals omega
  rw [HP.out]
  clear HP
  obtain ⟨p, s⟩ := t
  unfold trV
  unfold trcs at *
  obtain ⟨B1, _, x0, x1⟩ := H1.out
  simp only at *
  go_enter Tryz.func92, Tryz.ntmps92
  go_wp2
  all_goals
    refine bodyPost_ret (by simp [results, Tryz.results92, go_sem]) rfl ⟨rfl, ?_⟩
    exact B1.alloc (by simp) _
theorem stoodT : Tryz.prog.stoodInHeld 25 = false := by kernel_rfl
theorem guardT : Tryz.prog.eqGuardType Tryz.prog.depth 25 = false := by kernel_rfl
theorem fieldsT : Tryz.prog.underlying 25 = some (.struct (Tryz.prog.fieldsOf 25)) := by
  unfold Program.fieldsOf; rw [Tryz.underlying25]
theorem run_eqT (p s p' s' : Int) (w : World) :
    (binOp .eql 25 (.agg #[.int .i64 p, .int .i64 s]) (.agg #[.int .i64 p', .int .i64 s'])).run Tryz.prog w = .ok (.bool ((p == p') && (s == s'))) w := by
  rw [run_eql_struct, run_equalIn_agg w 9999 25 _ _ fieldsT stoodT]
  by_cases h1 : p = p' <;> by_cases h2 : s = s' <;> simp [go_sem, Program.fieldsOf, Tryz.underlying25, Tryz.underlying3, Op.eqFields, h1, h2]
set_option maxHeartbeats 800000 in
set_option maxRecDepth 100000 in
theorem impl_tok (t : Tr) (w : World) :
    Calls Tryz.prog 68 #[trV t] w fun e w' => e = .returned (.bool (tOk t)) ∧ Below w.heap.size w w' := by
  have H1 : Hid (Trw w (w.alloc (.cells (trcs t) 25)) w.heap.size t) := trw_new w t 25
  have HN := near_ok t
  have kN := fun W => impl_near t W
  generalize near t = u at *
  rw [HN]
  clear HN
  obtain ⟨p, s⟩ := t
  obtain ⟨p', s'⟩ := u
  unfold trV at *
  unfold trcs at *
  simp only at *
  obtain ⟨_, _, x0, x1⟩ := H1.out
  simp only at x0 x1
  have hn := bel_some (w.alloc (.cells #[Value.int .i64 p, Value.int .i64 s] 25))
  have c0 := fun q : Bel (w.alloc (.cells #[Value.int .i64 p, Value.int .i64 s] 25)) => q.cell x0
  have c1 := fun q : Bel (w.alloc (.cells #[Value.int .i64 p, Value.int .i64 s] 25)) => q.cell x1
  have hneg := guardT
  have hrun := fun W => run_eqT p s p' s' W
  generalize ((p == p') && (s == s')) = b at *
  clear x0 x1
  go_enter Tryz.func68, Tryz.ntmps68
  go_wp2_with fail
  generalize w.alloc (Obj.cells #[Value.int IntKind.i64 p, Value.int IntKind.i64 s] 25) = w1 at *
  refine wp_region_below (by kernel_rfl) (by kernel_rfl) ?_
  repeat (go_big_quiet_step ((go_at_call 92; exact bel_of (kN _))))
  refine wpQuiet_nil ?_
  intro _ hw'
  obtain ⟨pq, hw''⟩ := hw'
  subst hw''
  go_wp2
  go_ret
  exact ⟨rfl, (H1.out.step pq.h).1⟩
set_option maxHeartbeats 800000 in
set_option maxRecDepth 100000 in
theorem impl_exp (t : Tr) (x : Int) (w : World) :
    Calls Tryz.prog 72 #[trV t, .int .i64 x] w fun e w' => e = .returned (.int .i64 (expT t x)) ∧ Below w.heap.size w w' := by
  have H1 : Hid (Trw w (w.alloc (.cells (trcs t) 25)) w.heap.size t) := trw_new w t 25
  have kO := fun W => impl_tok t W
  have kT := fun W => impl_time x W
  have hp := (tOk_iff t).1
  have hx := (in_iff x 0 1000000).1
  rcases hO : tOk t with _ | _
  · rw [expT_no (.inl hO)]
    rw [hO] at kO
    clear hp hx hO kT
    obtain ⟨p, s⟩ := t
    unfold trV at *
    unfold trcs at *
    simp only at *
    obtain ⟨_, _, x0, x1⟩ := H1.out
    simp only at x0 x1
    go_enter Tryz.func72, Tryz.ntmps72
    go_wp2_with fail
    generalize w.alloc (Obj.cells #[Value.int .i64 p, Value.int .i64 s] 25) = w1 at *
    refine (kO _).mono ?_
    rintro e w2 ⟨rfl, bb⟩
    have H2 : Hid (Trw w w2 w.heap.size ⟨p, s⟩) := H1.out.step bb
    clear bb H1 x0 x1
    obtain ⟨_, _, x0, x1⟩ := H2.out
    simp only at x0 x1
    go_wp2
    go_ret
    exact ⟨rfl, H2.out.1⟩
  · rcases hT : isT x with _ | _
    · rw [expT_no (.inr hT)]
      rw [hO] at kO
      rw [hT] at kT
      clear hp hx hO hT
      obtain ⟨p, s⟩ := t
      unfold trV at *
      unfold trcs at *
      simp only at *
      obtain ⟨_, _, x0, x1⟩ := H1.out
      simp only at x0 x1
      go_enter Tryz.func72, Tryz.ntmps72
      go_wp2_with fail
      generalize w.alloc (Obj.cells #[Value.int .i64 p, Value.int .i64 s] 25) = w1 at *
      refine (kO _).mono ?_
      rintro e w2 ⟨rfl, bb⟩
      have H2 : Hid (Trw w w2 w.heap.size ⟨p, s⟩) := H1.out.step bb
      clear bb H1 x0 x1
      obtain ⟨_, _, x0, x1⟩ := H2.out
      simp only at x0 x1
      go_wp2_with fail
      refine (kT _).mono ?_
      rintro e wz ⟨rfl, rfl⟩
      go_wp2
      go_ret
      exact ⟨rfl, H2.out.1⟩
    · rw [expT_yes hO hT]
      have hp' := hp hO
      have hx' := hx hT
      rw [hO] at kO
      rw [hT] at kT
      clear hp hx hO hT
      obtain ⟨p, s⟩ := t
      unfold trV at *
      unfold trcs at *
      simp only at *
      obtain ⟨_, _, x0, x1⟩ := H1.out
      simp only at x0 x1
      go_enter Tryz.func72, Tryz.ntmps72
      go_wp2_with fail
      generalize w.alloc (Obj.cells #[Value.int .i64 p, Value.int .i64 s] 25) = w1 at *
      refine (kO _).mono ?_
      rintro e w2 ⟨rfl, bb⟩
      have H2 : Hid (Trw w w2 w.heap.size ⟨p, s⟩) := H1.out.step bb
      clear bb H1 x0 x1
      obtain ⟨_, _, x0, x1⟩ := H2.out
      simp only at x0 x1
      go_wp2_with fail
      refine (kT _).mono ?_
      rintro e wz ⟨rfl, rfl⟩
      go_wp2
      go_ret
      exact ⟨rfl, H2.out.1⟩
set_option maxHeartbeats 800000 in
set_option maxRecDepth 100000 in
theorem to_trust (t : Tr) (w : World) :
    Calls Tryz.prog 18 #[trV t] w fun e w' => e = .returned (trV t) ∧ Below w.heap.size w w' := by
  obtain ⟨p, s⟩ := t
  unfold trV
  simp only
  go_enter Tryz.func18, Tryz.ntmps18
  go_wp2
  refine bodyPost_ret (v := .agg #[.int .i64 p, .int .i64 s]) (by simp [results, Tryz.results18, go_sem]) rfl ⟨rfl, ?_⟩
  have h1 : Below w.heap.size w (((w.alloc (.cells #[.int .i64 p, .int .i64 s] 44)).alloc (.cells #[.int .i64 p, .int .i64 s] 25)).alloc (.cells #[.int .i64 p, .int .i64 s] 25)) := (((Below.refl _ _).alloc (Nat.le_refl _) _).alloc (by simp) _).alloc (by simp; omega) _
  exact h1
end Go.Proofs.YtajfmjgaaapjeaaGreatDoor
