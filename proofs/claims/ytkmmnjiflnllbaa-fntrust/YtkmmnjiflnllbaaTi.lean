/- What impl.isTime, withinLimits, TrustOk, Expires, leftAfter and its method value, Fresh and TimeLeft answer; old memory stays. Conditions: none of ours. -/
import Derived.Test.YtkmmnjiflnllbaaTs
import Derived.Laws.StructEq
namespace Go.Proofs.Ytkmmnjiflnllbaa
open Go.RowKit
open Num
set_option linter.unusedVariables false
set_option maxHeartbeats 800000 in
set_option maxRecDepth 100000 in
theorem impl_time (x : Int) (w : World) :
    Calls Try.prog 24 #[.int .i64 x] w fun e w' => e = .returned (.bool (isT x)) ∧ w' = w := by
  have HI : Hid (isT x = (decide (0 ≤ x) && decide (x ≤ 1000000))) := rfl
  by_cases h1 : 0 ≤ x
  · by_cases h2 : x ≤ 1000000
    all_goals
      go_enter Try.func24, Try.ntmps24
      go_wp2
      go_ret
      exact ⟨by rw [HI.out]; simp [h1, h2], rfl⟩
  · go_enter Try.func24, Try.ntmps24
    go_wp2
    go_ret
    exact ⟨by rw [HI.out]; simp; omega, rfl⟩
set_option maxHeartbeats 800000 in
set_option maxRecDepth 100000 in
theorem impl_near (t : T) (w : World) :
    Calls Try.prog 26 #[tV t] w fun e w' => e = .returned (tV (near t)) ∧ Below w.heap.size w w' := by
  have H1 : Hid (St w (w.alloc (.cells (tcs t) 25)) w.heap.size t) := st_new w t 25
  have HP : Hid (near t = ⟨if 1 < (if 100000 < t.p then 100000 else t.p) then (if 100000 < t.p then 100000 else t.p) else 1, if 0 < (if 1000 < t.s then 1000 else t.s) then (if 1000 < t.s then 1000 else t.s) else 0⟩) := by
    show near t = _
    unfold near
    congr 1
    · repeat' split
      all_goals omega
    · repeat' split
      all_goals omega
  rw [HP.out]
  clear HP
  obtain ⟨p, s⟩ := t
  unfold tV
  unfold tcs at *
  obtain ⟨B1, _, x0, x1⟩ := H1.out
  simp only at *
  go_enter Try.func26, Try.ntmps26
  go_wp2
  all_goals
    refine bodyPost_ret (by simp [results, Try.results26, go_sem]) rfl ⟨rfl, ?_⟩
    exact B1.alloc (by simp) _
theorem stoodT : Try.prog.stoodInHeld 25 = false := by kernel_rfl
theorem guardT : Try.prog.eqGuardType Try.prog.depth 25 = false := by kernel_rfl
theorem fieldsT : Try.prog.underlying 25 = some (.struct (Try.prog.fieldsOf 25)) := by
  unfold Program.fieldsOf; rw [Try.underlying25]
theorem run_eqT (p s p' s' : Int) (w : World) :
    (binOp .eql 25 (.agg #[.int .i64 p, .int .i64 s]) (.agg #[.int .i64 p', .int .i64 s'])).run Try.prog w = .ok (.bool ((p == p') && (s == s'))) w := by
  rw [run_eql_struct, run_equalIn_agg w 9999 25 _ _ fieldsT stoodT]
  by_cases h1 : p = p' <;> by_cases h2 : s = s' <;> simp [go_sem, Program.fieldsOf, Try.underlying25, Try.underlying3, Op.eqFields, h1, h2]
set_option maxHeartbeats 800000 in
set_option maxRecDepth 100000 in
theorem impl_ok (t : T) (w : World) :
    Calls Try.prog 18 #[tV t] w fun e w' => e = .returned (.bool (tOk t)) ∧ Below w.heap.size w w' := by
  have H1 : Hid (St w (w.alloc (.cells (tcs t) 25)) w.heap.size t) := st_new w t 25
  have HN := near_ok t
  have kN := fun W => impl_near t W
  generalize near t = u at *
  rw [HN]
  clear HN
  obtain ⟨p, s⟩ := t
  obtain ⟨p', s'⟩ := u
  unfold tV at *
  unfold tcs at *
  simp only at *
  obtain ⟨_, _, x0, x1⟩ := H1.out
  simp only at x0 x1
  have hn := bel_some (w.alloc (.cells #[Value.int .i64 p, Value.int .i64 s] 25))
  have c0 := fun q : Bel (w.alloc (.cells #[Value.int .i64 p, Value.int .i64 s] 25)) => q.cell x0
  have c1 := fun q : Bel (w.alloc (.cells #[Value.int .i64 p, Value.int .i64 s] 25)) => q.cell x1
  have hneg := guardT
  have hrun := fun W => run_eqT p s p' s' W
  generalize ((p == p') && (s == s')) = b at *
  clear x0 x1
  go_enter Try.func18, Try.ntmps18
  go_wp2_with fail
  generalize w.alloc (Obj.cells #[Value.int IntKind.i64 p, Value.int IntKind.i64 s] 25) = w1 at *
  refine wp_region_below (by kernel_rfl) (by kernel_rfl) ?_
  repeat (go_big_quiet_step ((go_at_call 26; exact bel_of (kN _))))
  refine wpQuiet_nil ?_
  intro _ hw'
  obtain ⟨pq, hw''⟩ := hw'
  subst hw''
  go_wp2
  go_ret
  exact ⟨rfl, (H1.out.step pq.h).1⟩
set_option maxHeartbeats 800000 in
set_option maxRecDepth 100000 in
theorem impl_exp (t : T) (x : Int) (w : World) :
    Calls Try.prog 14 #[tV t, .int .i64 x] w fun e w' => e = .returned (.int .i64 (expT t x)) ∧ Below w.heap.size w w' := by
  have H1 : Hid (St w (w.alloc (.cells (tcs t) 25)) w.heap.size t) := st_new w t 25
  have kO := fun W => impl_ok t W
  have kT := fun W => impl_time x W
  have hp := (tOk_iff t).1
  have hx := (in_iff x 0 1000000).1
  rcases hO : tOk t with _ | _
  · rw [expT_no (.inl hO)]
    rw [hO] at kO
    clear hp hx hO kT
    obtain ⟨p, s⟩ := t
    unfold tV at *
    unfold tcs at *
    simp only at *
    obtain ⟨_, _, x0, x1⟩ := H1.out
    simp only at x0 x1
    go_enter Try.func14, Try.ntmps14
    go_wp2_with fail
    generalize w.alloc (Obj.cells #[Value.int .i64 p, Value.int .i64 s] 25) = w1 at *
    refine (kO _).mono ?_
    rintro e w2 ⟨rfl, bb⟩
    have H2 : Hid (St w w2 w.heap.size ⟨p, s⟩) := H1.out.step bb
    clear bb H1 x0 x1
    obtain ⟨_, _, x0, x1⟩ := H2.out
    simp only at x0 x1
    go_wp2
    go_ret
    exact ⟨rfl, H2.out.1⟩
  · rcases hT : isT x with _ | _
    · rw [expT_no (.inr hT)]
      rw [hO] at kO
      rw [hT] at kT
      clear hp hx hO hT
      obtain ⟨p, s⟩ := t
      unfold tV at *
      unfold tcs at *
      simp only at *
      obtain ⟨_, _, x0, x1⟩ := H1.out
      simp only at x0 x1
      go_enter Try.func14, Try.ntmps14
      go_wp2_with fail
      generalize w.alloc (Obj.cells #[Value.int .i64 p, Value.int .i64 s] 25) = w1 at *
      refine (kO _).mono ?_
      rintro e w2 ⟨rfl, bb⟩
      have H2 : Hid (St w w2 w.heap.size ⟨p, s⟩) := H1.out.step bb
      clear bb H1 x0 x1
      obtain ⟨_, _, x0, x1⟩ := H2.out
      simp only at x0 x1
      go_wp2_with fail
      refine (kT _).mono ?_
      rintro e wz ⟨rfl, rfl⟩
      go_wp2
      go_ret
      exact ⟨rfl, H2.out.1⟩
    · rw [expT_yes hO hT]
      have hp' := hp hO
      have hx' := hx hT
      rw [hO] at kO
      rw [hT] at kT
      clear hp hx hO hT
      obtain ⟨p, s⟩ := t
      unfold tV at *
      unfold tcs at *
      simp only at *
      obtain ⟨_, _, x0, x1⟩ := H1.out
      simp only at x0 x1
      go_enter Try.func14, Try.ntmps14
      go_wp2_with fail
      generalize w.alloc (Obj.cells #[Value.int .i64 p, Value.int .i64 s] 25) = w1 at *
      refine (kO _).mono ?_
      rintro e w2 ⟨rfl, bb⟩
      have H2 : Hid (St w w2 w.heap.size ⟨p, s⟩) := H1.out.step bb
      clear bb H1 x0 x1
      obtain ⟨_, _, x0, x1⟩ := H2.out
      simp only at x0 x1
      go_wp2_with fail
      refine (kT _).mono ?_
      rintro e wz ⟨rfl, rfl⟩
      go_wp2
      go_ret
      exact ⟨rfl, H2.out.1⟩
set_option maxHeartbeats 800000 in
set_option maxRecDepth 100000 in
theorem impl_last (z n : Int) (w : World) (hz : -1 ≤ z ∧ z ≤ 1100000) :
    Calls Try.prog 30 #[.int .i64 z, .int .i64 n] w fun e w' => e = .returned (.int .i64 (lastT z n)) ∧ w' = w := by
  have kT := fun W => impl_time n W
  have HL : lastT z n = if isT n = true then z - n else -1 := rfl
  have hn := (in_iff n 0 1000000).1
  rw [HL]
  clear HL
  rcases hT : isT n with _ | _
  · rw [if_neg (by simp)]
    rw [hT] at kT
    clear hn hT
    go_enter Try.func30, Try.ntmps30
    go_wp2_with fail
    refine (kT _).mono ?_
    rintro e w1 ⟨rfl, rfl⟩
    go_wp2
    go_ret
    exact ⟨rfl, rfl⟩
  · rw [if_pos rfl]
    rw [hT] at kT
    have hn' := hn hT
    clear hn hT
    go_enter Try.func30, Try.ntmps30
    go_wp2_with fail
    refine (kT _).mono ?_
    rintro e w1 ⟨rfl, rfl⟩
    go_wp2
    go_ret
    exact ⟨rfl, rfl⟩
set_option maxHeartbeats 800000 in
set_option maxRecDepth 100000 in
theorem impl_after (t : T) (x : Int) (w : World) :
    Calls Try.prog 22 #[tV t, .int .i64 x] w fun e w' => e = .returned (.func (.func 30) #[.int .i64 (expT t x)] #[]) ∧ Below w.heap.size w w' := by
  have H1 : Hid (St w (w.alloc (.cells (tcs t) 25)) w.heap.size t) := st_new w t 25
  have hmf : ∀ (fn : Fn) (first cap : Array Value) (w : World), (Instr.makeFunc fn first cap).run Try.prog w = .ok (.func fn first cap) w := fun _ _ _ _ => rfl
  have kE := fun W => impl_exp t x W
  generalize expT t x = z at *
  obtain ⟨p, s⟩ := t
  unfold tV at *
  unfold tcs at *
  simp only at *
  obtain ⟨_, _, x0, x1⟩ := H1.out
  simp only at x0 x1
  go_enter Try.func22, Try.ntmps22
  go_wp2_with fail
  generalize w.alloc (Obj.cells #[Value.int .i64 p, Value.int .i64 s] 25) = w1 at *
  refine (kE _).mono ?_
  rintro e w2 ⟨rfl, bb⟩
  have H2 : Hid (St w w2 w.heap.size ⟨p, s⟩) := H1.out.step bb
  clear bb H1 x0 x1
  obtain ⟨_, _, x0, x1⟩ := H2.out
  simp only at x0 x1
  go_wp2
  go_ret
  exact ⟨rfl, H2.out.1⟩
set_option maxHeartbeats 800000 in
set_option maxRecDepth 100000 in
theorem impl_timeLeft (t : T) (x n : Int) (w : World) :
    Calls Try.prog 10 #[tV t, .int .i64 x, .int .i64 n] w fun e w' => e = .returned (.int .i64 (leftT t x n)) ∧ Below w.heap.size w w' := by
  have H1 : Hid (St w (w.alloc (.cells (tcs t) 25)) w.heap.size t) := st_new w t 25
  have kA := fun W => impl_after t x W
  have kL := fun W => impl_last (expT t x) n W (expT_bound t x)
  have HF : leftT t x n = if 0 < lastT (expT t x) n then lastT (expT t x) n else 0 := by
    rw [left_last]
    split <;> omega
  rw [HF]
  clear HF
  generalize expT t x = z at *
  generalize lastT z n = l at *
  obtain ⟨p, s⟩ := t
  unfold tV at *
  unfold tcs at *
  simp only at *
  by_cases g : 0 < l
  · rw [if_pos g]
    obtain ⟨_, _, x0, x1⟩ := H1.out
    simp only at x0 x1
    go_enter Try.func10, Try.ntmps10
    go_wp2_with fail
    generalize w.alloc (Obj.cells #[Value.int .i64 p, Value.int .i64 s] 25) = w1 at *
    refine (kA _).mono ?_
    rintro e w2 ⟨rfl, bb⟩
    have H2 : Hid (St w w2 w.heap.size ⟨p, s⟩) := H1.out.step bb
    clear bb H1 x0 x1
    obtain ⟨_, _, x0, x1⟩ := H2.out
    simp only at x0 x1
    go_wp2_with fail
    refine (kL _).mono ?_
    rintro e wz ⟨rfl, rfl⟩
    go_wp2
    go_ret
    exact ⟨rfl, H2.out.1⟩
  · rw [if_neg g]
    obtain ⟨_, _, x0, x1⟩ := H1.out
    simp only at x0 x1
    go_enter Try.func10, Try.ntmps10
    go_wp2_with fail
    generalize w.alloc (Obj.cells #[Value.int .i64 p, Value.int .i64 s] 25) = w1 at *
    refine (kA _).mono ?_
    rintro e w2 ⟨rfl, bb⟩
    have H2 : Hid (St w w2 w.heap.size ⟨p, s⟩) := H1.out.step bb
    clear bb H1 x0 x1
    obtain ⟨_, _, x0, x1⟩ := H2.out
    simp only at x0 x1
    go_wp2_with fail
    refine (kL _).mono ?_
    rintro e wz ⟨rfl, rfl⟩
    go_wp2
    go_ret
    exact ⟨rfl, H2.out.1⟩
set_option maxHeartbeats 800000 in
set_option maxRecDepth 100000 in
theorem impl_fresh (t : T) (x n : Int) (w : World) :
    Calls Try.prog 12 #[tV t, .int .i64 x, .int .i64 n] w fun e w' => e = .returned (.bool (freshT t x n)) ∧ Below w.heap.size w w' := by
  have H1 : Hid (St w (w.alloc (.cells (tcs t) 25)) w.heap.size t) := st_new w t 25
  have kA := fun W => impl_after t x W
  have kL := fun W => impl_last (expT t x) n W (expT_bound t x)
  have HF := fresh_last t x n
  have hb : 0 ≤ lastT (expT t x) n → (0 ≤ n ∧ n ≤ 1000000) ∧ (0 ≤ t.s ∧ t.s ≤ 1000) := fun h => by
    unfold lastT at h
    split at h
    · rename_i h3
      have h3' := (in_iff n 0 1000000).1 h3
      refine ⟨h3', ?_⟩
      unfold expT at h
      split at h
      · rename_i h4; exact ((tOk_iff t).1 h4.1).2
      · omega
    · omega
  rw [HF]
  clear HF
  generalize expT t x = z at *
  generalize lastT z n = l at *
  obtain ⟨p, s⟩ := t
  unfold tV at *
  unfold tcs at *
  simp only at *
  by_cases g : 0 ≤ l
  · have hb' := hb g
    have e1 : (decide (0 ≤ l) && decide (x ≤ n + s)) = decide (x ≤ n + s) := by simp [g]
    rw [e1]
    clear e1 hb
    obtain ⟨_, _, x0, x1⟩ := H1.out
    simp only at x0 x1
    go_enter Try.func12, Try.ntmps12
    go_wp2_with fail
    generalize w.alloc (Obj.cells #[Value.int .i64 p, Value.int .i64 s] 25) = w1 at *
    refine (kA _).mono ?_
    rintro e w2 ⟨rfl, bb⟩
    have H2 : Hid (St w w2 w.heap.size ⟨p, s⟩) := H1.out.step bb
    clear bb H1 x0 x1
    obtain ⟨_, _, x0, x1⟩ := H2.out
    simp only at x0 x1
    go_wp2_with fail
    refine (kL _).mono ?_
    rintro e wz ⟨rfl, rfl⟩
    go_wp2
    go_ret
    exact ⟨rfl, H2.out.1⟩
  · have e1 : (decide (0 ≤ l) && decide (x ≤ n + s)) = false := by simp [g]
    rw [e1]
    clear e1 hb
    obtain ⟨_, _, x0, x1⟩ := H1.out
    simp only at x0 x1
    go_enter Try.func12, Try.ntmps12
    go_wp2_with fail
    generalize w.alloc (Obj.cells #[Value.int .i64 p, Value.int .i64 s] 25) = w1 at *
    refine (kA _).mono ?_
    rintro e w2 ⟨rfl, bb⟩
    have H2 : Hid (St w w2 w.heap.size ⟨p, s⟩) := H1.out.step bb
    clear bb H1 x0 x1
    obtain ⟨_, _, x0, x1⟩ := H2.out
    simp only at x0 x1
    go_wp2_with fail
    refine (kL _).mono ?_
    rintro e wz ⟨rfl, rfl⟩
    go_wp2
    go_ret
    exact ⟨rfl, H2.out.1⟩
end Go.Proofs.Ytkmmnjiflnllbaa
