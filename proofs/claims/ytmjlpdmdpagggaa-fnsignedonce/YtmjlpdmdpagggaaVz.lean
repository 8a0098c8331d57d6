/- What the laws' helpers szVote and toVote answer; old memory stays. Conditions: a text that a machine can hold. -/
import Derived.Test.YtmjlpdmdpagggaaVo
namespace Go.Proofs.Ytmjlpdmdpagggaa
open Go.RowKit
open Num
set_option linter.unusedVariables false
def szT (x : Vt) : Int := if (1048576 : Int) < x.i.size then -1 else 1048576 - x.i.size
theorem szT_pos (x : Vt) (h : ¬ szT x < 0) : x.i.size ≤ 1048576 := by unfold szT at h; split at h <;> omega
set_option maxHeartbeats 800000 in
theorem sz_vote (x : Vt) (w : World) (hx : x.i.size ≤ maxLen) :
    Calls Try.prog 31 #[tV x, .int .i64 1048576] w fun e w' => e = .returned (.int .i64 (szT x)) ∧ Below w.heap.size w w' := by
  obtain ⟨c0, c1, c2, c3, c4⟩ := five_new w x 55
  obtain ⟨h, r, s, i, v⟩ := x
  unfold maxLen at hx
  unfold tV szT
  unfold tcs at *
  simp only at *
  obtain ⟨B, hB⟩ : ∃ B : Int, (i.size : Int) = B := ⟨_, rfl⟩
  have b0 : 0 ≤ B := by omega
  have b1 : B ≤ 9223372036854775807 := by omega
  rw [hB]
  by_cases g1 : 1048576 - B < 0
  · rw [if_pos (by omega)]
    go_enter Try.func31, Try.ntmps31
    go_wp2
    go_ret
    exact ⟨rfl, (Below.refl _ _).alloc (Nat.le_refl _) _⟩
  · rw [if_neg (by omega)]
    go_enter Try.func31, Try.ntmps31
    go_wp2
    go_ret
    exact ⟨rfl, (Below.refl _ _).alloc (Nat.le_refl _) _⟩
set_option maxHeartbeats 800000 in
theorem to_vote (x : Vt) (w : World) :
    Calls Try.prog 32 #[tV x] w fun e w' => e = .returned (tV x) ∧ Below w.heap.size w w' := by
  obtain ⟨h, r, s, i, v⟩ := x
  unfold tV
  simp only
  go_enter Try.func32, Try.ntmps32
  go_wp2
  refine bodyPost_ret (v := .agg #[.int .i64 h, .int .i64 r, .int .i64 s, .string i, .int .i64 v]) (by simp [results, Try.results32, go_sem]) rfl ⟨rfl, ?_⟩
  exact (((Below.refl _ _).alloc (Nat.le_refl _) _).alloc (by simp) _).alloc (by simp; omega) _
end Go.Proofs.Ytmjlpdmdpagggaa
