/- What spec.l1In, l10Time, TrustOk, Expires, Fresh and TimeLeft answer; old memory stays. Conditions: none of ours. -/
import Derived.Test.YtkmmnjiflnllbaaTn
import Derived.Test.YtkmmnjiflnllbaaBe
import Derived.WalkKit
namespace Go.Proofs.Ytkmmnjiflnllbaa
open Go.RowKit
open Num
set_option linter.unusedVariables false
/-- A trust as a value, and its cells. -/
def tV (t : T) : Value := .agg #[.int .i64 t.p, .int .i64 t.s]
def tcs (t : T) : Array Value := #[.int .i64 t.p, .int .i64 t.s]
def Two (W : World) (g : Nat) (t : T) : Prop := W.cell? ⟨g, 0, none⟩ = some (.int .i64 t.p) ∧ W.cell? ⟨g, 1, none⟩ = some (.int .i64 t.s)
theorem two_new (w : World) (t : T) (ty : TypeId) : Two (w.alloc (.cells (tcs t) ty)) w.heap.size t := by
  unfold Two tcs; simp
theorem Two.below {W W' : World} {g B : Nat} {t : T} (h : Two W g t) (hb : Below B W W') (hg : g < B) : Two W' g t :=
  ⟨by rw [hb.cell hg]; exact h.1, by rw [hb.cell hg]; exact h.2⟩
/-- A trust lies in block g; old memory stands. -/
def St (w W : World) (g : Nat) (t : T) : Prop := Below w.heap.size w W ∧ g < W.heap.size ∧ Two W g t
theorem st_new (w : World) (t : T) (ty : TypeId) : St w (w.alloc (.cells (tcs t) ty)) w.heap.size t :=
  ⟨(Below.refl _ _).alloc (Nat.le_refl _) _, by simp, two_new w t ty⟩
theorem St.step {w W W' : World} {g : Nat} {t : T} (h : St w W g t) (hb : Below W.heap.size W W') : St w W' g t :=
  ⟨h.1.trans (hb.mono h.1.size), Nat.lt_of_lt_of_le h.2.1 hb.size, h.2.2.below hb h.2.1⟩
theorem St.drewN {w W : World} {g : Nat} {t : T} (h : St w W g t) (n : Nat) : St w (W.drewN n) g t := h.step (below_drewN (Below.refl _ _) n)
set_option maxHeartbeats 800000 in
set_option maxRecDepth 100000 in
theorem spec_in (x lo hi : Int) (w : World) :
    Calls Try.prog 25 #[.int .i64 x, .int .i64 lo, .int .i64 hi] w fun e w' => e = .returned (.bool (inIs x lo hi)) ∧ w' = w := by
  have HI : Hid (inIs x lo hi = (decide (lo ≤ x) && decide (x ≤ hi))) := rfl
  by_cases h1 : lo ≤ x
  · by_cases h2 : x ≤ hi
    all_goals
      go_enter Try.func25, Try.ntmps25
      go_wp2
      go_ret
      exact ⟨by rw [HI.out]; simp [h1, h2], rfl⟩
  · go_enter Try.func25, Try.ntmps25
    go_wp2
    go_ret
    exact ⟨by rw [HI.out]; simp; omega, rfl⟩
set_option maxHeartbeats 800000 in
set_option maxRecDepth 100000 in
theorem spec_time (x : Int) (w : World) :
    Calls Try.prog 23 #[.int .i64 x] w fun e w' => e = .returned (.bool (isT x)) ∧ w' = w := by
  have k : ∀ W, Calls Try.prog 25 #[.int .i64 x, .int .i64 0, .int .i64 1000000] W fun e w' => e = .returned (.bool (isT x)) ∧ w' = W := fun W => spec_in x 0 1000000 W
  generalize isT x = b at *
  go_enter Try.func23, Try.ntmps23
  go_wp2_with fail
  refine (k _).mono ?_
  rintro e w1 ⟨rfl, rfl⟩
  go_wp2
  go_ret
  exact ⟨rfl, rfl⟩
set_option maxHeartbeats 800000 in
set_option maxRecDepth 100000 in
theorem spec_ok (t : T) (w : World) :
    Calls Try.prog 16 #[tV t] w fun e w' => e = .returned (.bool (tOk t)) ∧ Below w.heap.size w w' := by
  have k1 := fun W => spec_in t.p 1 100000 W
  have k2 := fun W => spec_in t.s 0 1000 W
  have HT : tOk t = (inIs t.p 1 100000 && inIs t.s 0 1000) := rfl
  have H1 : Hid (St w (w.alloc (.cells (tcs t) 25)) w.heap.size t) := st_new w t 25
  generalize inIs t.p 1 100000 = b1 at *
  generalize inIs t.s 0 1000 = b2 at *
  rw [HT]
  clear HT
  obtain ⟨p, s⟩ := t
  unfold tV
  unfold tcs at *
  obtain ⟨B1, _, x0, x1⟩ := H1.out
  simp only at *
  rcases b1 with _ | _
  · go_enter Try.func16, Try.ntmps16
    go_wp2_with fail
    refine (k1 _).mono ?_
    rintro e w1 ⟨rfl, rfl⟩
    go_wp2
    go_ret
    exact ⟨rfl, B1⟩
  · go_enter Try.func16, Try.ntmps16
    go_wp2_with fail
    refine (k1 _).mono ?_
    rintro e w1 ⟨rfl, rfl⟩
    go_wp2_with fail
    refine (k2 _).mono ?_
    rintro e w1 ⟨rfl, rfl⟩
    go_wp2
    go_ret
    exact ⟨rfl, B1⟩
set_option maxHeartbeats 800000 in
set_option maxRecDepth 100000 in
theorem spec_exp (t : T) (x : Int) (w : World) :
    Calls Try.prog 15 #[tV t, .int .i64 x] w fun e w' => e = .returned (.int .i64 (expT t x)) ∧ Below w.heap.size w w' := by
  have H1 : Hid (St w (w.alloc (.cells (tcs t) 25)) w.heap.size t) := st_new w t 25
  have kO := fun W => spec_ok t W
  have kT := fun W => spec_time x W
  have hp := (tOk_iff t).1
  have hx := (in_iff x 0 1000000).1
  rcases hO : tOk t with _ | _
  · rw [expT_no (.inl hO)]
    rw [hO] at kO
    clear hp hx hO kT
    obtain ⟨p, s⟩ := t
    unfold tV at *
    unfold tcs at *
    simp only at *
    obtain ⟨_, _, x0, x1⟩ := H1.out
    simp only at x0 x1
    go_enter Try.func15, Try.ntmps15
    go_wp2_with fail
    generalize w.alloc (Obj.cells #[Value.int .i64 p, Value.int .i64 s] 25) = w1 at *
    refine (kO _).mono ?_
    rintro e w2 ⟨rfl, bb⟩
    have H2 : Hid (St w w2 w.heap.size ⟨p, s⟩) := H1.out.step bb
    clear bb H1 x0 x1
    obtain ⟨_, _, x0, x1⟩ := H2.out
    simp only at x0 x1
    go_wp2
    go_ret
    exact ⟨rfl, H2.out.1⟩
  · rcases hT : isT x with _ | _
    · rw [expT_no (.inr hT)]
      rw [hO] at kO
      rw [hT] at kT
      clear hp hx hO hT
      obtain ⟨p, s⟩ := t
      unfold tV at *
      unfold tcs at *
      simp only at *
      obtain ⟨_, _, x0, x1⟩ := H1.out
      simp only at x0 x1
      go_enter Try.func15, Try.ntmps15
      go_wp2_with fail
      generalize w.alloc (Obj.cells #[Value.int .i64 p, Value.int .i64 s] 25) = w1 at *
      refine (kO _).mono ?_
      rintro e w2 ⟨rfl, bb⟩
      have H2 : Hid (St w w2 w.heap.size ⟨p, s⟩) := H1.out.step bb
      clear bb H1 x0 x1
      obtain ⟨_, _, x0, x1⟩ := H2.out
      simp only at x0 x1
      go_wp2_with fail
      refine (kT _).mono ?_
      rintro e wz ⟨rfl, rfl⟩
      go_wp2
      go_ret
      exact ⟨rfl, H2.out.1⟩
    · rw [expT_yes hO hT]
      have hp' := hp hO
      have hx' := hx hT
      rw [hO] at kO
      rw [hT] at kT
      clear hp hx hO hT
      obtain ⟨p, s⟩ := t
      unfold tV at *
      unfold tcs at *
      simp only at *
      obtain ⟨_, _, x0, x1⟩ := H1.out
      simp only at x0 x1
      go_enter Try.func15, Try.ntmps15
      go_wp2_with fail
      generalize w.alloc (Obj.cells #[Value.int .i64 p, Value.int .i64 s] 25) = w1 at *
      refine (kO _).mono ?_
      rintro e w2 ⟨rfl, bb⟩
      have H2 : Hid (St w w2 w.heap.size ⟨p, s⟩) := H1.out.step bb
      clear bb H1 x0 x1
      obtain ⟨_, _, x0, x1⟩ := H2.out
      simp only at x0 x1
      go_wp2_with fail
      refine (kT _).mono ?_
      rintro e wz ⟨rfl, rfl⟩
      go_wp2
      go_ret
      exact ⟨rfl, H2.out.1⟩
set_option maxHeartbeats 800000 in
set_option maxRecDepth 100000 in
theorem spec_fresh (t : T) (x n : Int) (w : World) :
    Calls Try.prog 13 #[tV t, .int .i64 x, .int .i64 n] w fun e w' => e = .returned (.bool (freshT t x n)) ∧ Below w.heap.size w w' := by
  have H1 : Hid (St w (w.alloc (.cells (tcs t) 25)) w.heap.size t) := st_new w t 25
  have kO := fun W => spec_ok t W
  have kX := fun W => spec_time x W
  have kN := fun W => spec_time n W
  have hp := (tOk_iff t).1
  have hx := (in_iff x 0 1000000).1
  have hn := (in_iff n 0 1000000).1
  have HF : freshT t x n = (tOk t && (isT x && (isT n && (decide (n ≤ x + t.p) && decide (x ≤ n + t.s))))) := rfl
  rw [HF]
  clear HF
  rcases hO : tOk t with _ | _
  · rw [hO] at kO
    clear hp hx hn hO kX kN
    obtain ⟨p, s⟩ := t
    unfold tV at *
    unfold tcs at *
    simp only at *
    obtain ⟨_, _, x0, x1⟩ := H1.out
    simp only at x0 x1
    go_enter Try.func13, Try.ntmps13
    go_wp2_with fail
    generalize w.alloc (Obj.cells #[Value.int .i64 p, Value.int .i64 s] 25) = w1 at *
    refine (kO _).mono ?_
    rintro e w2 ⟨rfl, bb⟩
    have H2 : Hid (St w w2 w.heap.size ⟨p, s⟩) := H1.out.step bb
    clear bb H1 x0 x1
    obtain ⟨_, _, x0, x1⟩ := H2.out
    simp only at x0 x1
    go_wp2
    go_ret
    exact ⟨rfl, H2.out.1⟩
  · rw [hO] at kO
    have hp' := hp hO
    rcases hX : isT x with _ | _
    · rw [hX] at kX
      clear hp hx hn hO kN hX
      obtain ⟨p, s⟩ := t
      unfold tV at *
      unfold tcs at *
      simp only at *
      obtain ⟨_, _, x0, x1⟩ := H1.out
      simp only at x0 x1
      go_enter Try.func13, Try.ntmps13
      go_wp2_with fail
      generalize w.alloc (Obj.cells #[Value.int .i64 p, Value.int .i64 s] 25) = w1 at *
      refine (kO _).mono ?_
      rintro e w2 ⟨rfl, bb⟩
      have H2 : Hid (St w w2 w.heap.size ⟨p, s⟩) := H1.out.step bb
      clear bb H1 x0 x1
      obtain ⟨_, _, x0, x1⟩ := H2.out
      simp only at x0 x1
      go_wp2_with fail
      refine (kX _).mono ?_
      rintro e wz ⟨rfl, rfl⟩
      go_wp2
      go_ret
      exact ⟨rfl, H2.out.1⟩
    · rw [hX] at kX
      have hx' := hx hX
      rcases hN : isT n with _ | _
      · rw [hN] at kN
        clear hp hx hn hO hX hN
        obtain ⟨p, s⟩ := t
        unfold tV at *
        unfold tcs at *
        simp only at *
        obtain ⟨_, _, x0, x1⟩ := H1.out
        simp only at x0 x1
        go_enter Try.func13, Try.ntmps13
        go_wp2_with fail
        generalize w.alloc (Obj.cells #[Value.int .i64 p, Value.int .i64 s] 25) = w1 at *
        refine (kO _).mono ?_
        rintro e w2 ⟨rfl, bb⟩
        have H2 : Hid (St w w2 w.heap.size ⟨p, s⟩) := H1.out.step bb
        clear bb H1 x0 x1
        obtain ⟨_, _, x0, x1⟩ := H2.out
        simp only at x0 x1
        go_wp2_with fail
        refine (kX _).mono ?_
        rintro e wz ⟨rfl, rfl⟩
        go_wp2_with fail
        refine (kN _).mono ?_
        rintro e wz ⟨rfl, rfl⟩
        go_wp2
        go_ret
        exact ⟨rfl, H2.out.1⟩
      · rw [hN] at kN
        have hn' := hn hN
        clear hp hx hn hO hX hN
        obtain ⟨p, s⟩ := t
        unfold tV at *
        unfold tcs at *
        simp only at *
        by_cases g1 : n ≤ x + p
        · have e1 : (true && (true && (true && (decide (n ≤ x + p) && decide (x ≤ n + s))))) = decide (x ≤ n + s) := by simp [g1]
          rw [e1]
          clear e1
          obtain ⟨_, _, x0, x1⟩ := H1.out
          simp only at x0 x1
          go_enter Try.func13, Try.ntmps13
          go_wp2_with fail
          generalize w.alloc (Obj.cells #[Value.int .i64 p, Value.int .i64 s] 25) = w1 at *
          refine (kO _).mono ?_
          rintro e w2 ⟨rfl, bb⟩
          have H2 : Hid (St w w2 w.heap.size ⟨p, s⟩) := H1.out.step bb
          clear bb H1 x0 x1
          obtain ⟨_, _, x0, x1⟩ := H2.out
          simp only at x0 x1
          go_wp2_with fail
          refine (kX _).mono ?_
          rintro e wz ⟨rfl, rfl⟩
          go_wp2_with fail
          refine (kN _).mono ?_
          rintro e wz ⟨rfl, rfl⟩
          go_wp2
          go_ret
          exact ⟨rfl, H2.out.1⟩
        · have e1 : (true && (true && (true && (decide (n ≤ x + p) && decide (x ≤ n + s))))) = false := by simp; omega
          rw [e1]
          clear e1
          obtain ⟨_, _, x0, x1⟩ := H1.out
          simp only at x0 x1
          go_enter Try.func13, Try.ntmps13
          go_wp2_with fail
          generalize w.alloc (Obj.cells #[Value.int .i64 p, Value.int .i64 s] 25) = w1 at *
          refine (kO _).mono ?_
          rintro e w2 ⟨rfl, bb⟩
          have H2 : Hid (St w w2 w.heap.size ⟨p, s⟩) := H1.out.step bb
          clear bb H1 x0 x1
          obtain ⟨_, _, x0, x1⟩ := H2.out
          simp only at x0 x1
          go_wp2_with fail
          refine (kX _).mono ?_
          rintro e wz ⟨rfl, rfl⟩
          go_wp2_with fail
          refine (kN _).mono ?_
          rintro e wz ⟨rfl, rfl⟩
          go_wp2
          go_ret
          exact ⟨rfl, H2.out.1⟩
set_option maxHeartbeats 800000 in
set_option maxRecDepth 100000 in
theorem spec_left (t : T) (x n : Int) (w : World) :
    Calls Try.prog 11 #[tV t, .int .i64 x, .int .i64 n] w fun e w' => e = .returned (.int .i64 (leftT t x n)) ∧ Below w.heap.size w w' := by
  have H1 : Hid (St w (w.alloc (.cells (tcs t) 25)) w.heap.size t) := st_new w t 25
  have kO := fun W => spec_ok t W
  have kX := fun W => spec_time x W
  have kN := fun W => spec_time n W
  have hp := (tOk_iff t).1
  have hx := (in_iff x 0 1000000).1
  have hn := (in_iff n 0 1000000).1
  have HF : leftT t x n = if (tOk t = true ∧ isT x = true ∧ isT n = true) ∧ n < x + t.p then x + t.p - n else 0 := rfl
  rw [HF]
  clear HF
  rcases hO : tOk t with _ | _
  · rw [hO] at kO
    rw [if_neg (fun h => absurd h.1.1 (by simp))]
    clear hp hx hn hO kX kN
    obtain ⟨p, s⟩ := t
    unfold tV at *
    unfold tcs at *
    simp only at *
    obtain ⟨_, _, x0, x1⟩ := H1.out
    simp only at x0 x1
    go_enter Try.func11, Try.ntmps11
    go_wp2_with fail
    generalize w.alloc (Obj.cells #[Value.int .i64 p, Value.int .i64 s] 25) = w1 at *
    refine (kO _).mono ?_
    rintro e w2 ⟨rfl, bb⟩
    have H2 : Hid (St w w2 w.heap.size ⟨p, s⟩) := H1.out.step bb
    clear bb H1 x0 x1
    obtain ⟨_, _, x0, x1⟩ := H2.out
    simp only at x0 x1
    go_wp2
    go_ret
    exact ⟨rfl, H2.out.1⟩
  · rw [hO] at kO
    have hp' := hp hO
    rcases hX : isT x with _ | _
    · rw [hX] at kX
      rw [if_neg (fun h => absurd h.1.2.1 (by simp))]
      clear hp hx hn hO kN hX
      obtain ⟨p, s⟩ := t
      unfold tV at *
      unfold tcs at *
      simp only at *
      obtain ⟨_, _, x0, x1⟩ := H1.out
      simp only at x0 x1
      go_enter Try.func11, Try.ntmps11
      go_wp2_with fail
      generalize w.alloc (Obj.cells #[Value.int .i64 p, Value.int .i64 s] 25) = w1 at *
      refine (kO _).mono ?_
      rintro e w2 ⟨rfl, bb⟩
      have H2 : Hid (St w w2 w.heap.size ⟨p, s⟩) := H1.out.step bb
      clear bb H1 x0 x1
      obtain ⟨_, _, x0, x1⟩ := H2.out
      simp only at x0 x1
      go_wp2_with fail
      refine (kX _).mono ?_
      rintro e wz ⟨rfl, rfl⟩
      go_wp2
      go_ret
      exact ⟨rfl, H2.out.1⟩
    · rw [hX] at kX
      have hx' := hx hX
      rcases hN : isT n with _ | _
      · rw [hN] at kN
        rw [if_neg (fun h => absurd h.1.2.2 (by simp))]
        clear hp hx hn hO hX hN
        obtain ⟨p, s⟩ := t
        unfold tV at *
        unfold tcs at *
        simp only at *
        obtain ⟨_, _, x0, x1⟩ := H1.out
        simp only at x0 x1
        go_enter Try.func11, Try.ntmps11
        go_wp2_with fail
        generalize w.alloc (Obj.cells #[Value.int .i64 p, Value.int .i64 s] 25) = w1 at *
        refine (kO _).mono ?_
        rintro e w2 ⟨rfl, bb⟩
        have H2 : Hid (St w w2 w.heap.size ⟨p, s⟩) := H1.out.step bb
        clear bb H1 x0 x1
        obtain ⟨_, _, x0, x1⟩ := H2.out
        simp only at x0 x1
        go_wp2_with fail
        refine (kX _).mono ?_
        rintro e wz ⟨rfl, rfl⟩
        go_wp2_with fail
        refine (kN _).mono ?_
        rintro e wz ⟨rfl, rfl⟩
        go_wp2
        go_ret
        exact ⟨rfl, H2.out.1⟩
      · rw [hN] at kN
        have hn' := hn hN
        clear hp hx hn hO hX hN
        obtain ⟨p, s⟩ := t
        unfold tV at *
        unfold tcs at *
        simp only at *
        by_cases g1 : n < x + p
        · rw [if_pos ⟨by simp, g1⟩]
          obtain ⟨_, _, x0, x1⟩ := H1.out
          simp only at x0 x1
          go_enter Try.func11, Try.ntmps11
          go_wp2_with fail
          generalize w.alloc (Obj.cells #[Value.int .i64 p, Value.int .i64 s] 25) = w1 at *
          refine (kO _).mono ?_
          rintro e w2 ⟨rfl, bb⟩
          have H2 : Hid (St w w2 w.heap.size ⟨p, s⟩) := H1.out.step bb
          clear bb H1 x0 x1
          obtain ⟨_, _, x0, x1⟩ := H2.out
          simp only at x0 x1
          go_wp2_with fail
          refine (kX _).mono ?_
          rintro e wz ⟨rfl, rfl⟩
          go_wp2_with fail
          refine (kN _).mono ?_
          rintro e wz ⟨rfl, rfl⟩
          go_wp2
          go_ret
          exact ⟨rfl, H2.out.1⟩
        · rw [if_neg (fun h => g1 h.2)]
          obtain ⟨_, _, x0, x1⟩ := H1.out
          simp only at x0 x1
          go_enter Try.func11, Try.ntmps11
          go_wp2_with fail
          generalize w.alloc (Obj.cells #[Value.int .i64 p, Value.int .i64 s] 25) = w1 at *
          refine (kO _).mono ?_
          rintro e w2 ⟨rfl, bb⟩
          have H2 : Hid (St w w2 w.heap.size ⟨p, s⟩) := H1.out.step bb
          clear bb H1 x0 x1
          obtain ⟨_, _, x0, x1⟩ := H2.out
          simp only at x0 x1
          go_wp2_with fail
          refine (kX _).mono ?_
          rintro e wz ⟨rfl, rfl⟩
          go_wp2_with fail
          refine (kN _).mono ?_
          rintro e wz ⟨rfl, rfl⟩
          go_wp2
          go_ret
          exact ⟨rfl, H2.out.1⟩
end Go.Proofs.Ytkmmnjiflnllbaa
