/- What spec.l1In, the program's small tests and the two VoteOk answer; old memory stays. Conditions: none of ours. -/
import Derived.Test.YtmjlpdmdpagggaaVd
import Derived.Test.YtmjlpdmdpagggaaPb
import Derived.WalkKit
namespace Go.Proofs.Ytmjlpdmdpagggaa
open Go.RowKit
open Num
set_option linter.unusedVariables false
set_option maxHeartbeats 400000 in
theorem spec_in (x lo hi : Int) (w : World) :
    Calls Try.prog 43 #[.int .i64 x, .int .i64 lo, .int .i64 hi] w fun e w' => e = .returned (.bool (inIs x lo hi)) ∧ w' = w := by
  have HI : Hid (inIs x lo hi = (decide (lo ≤ x) && decide (x ≤ hi))) := rfl
  by_cases h1 : lo ≤ x
  · by_cases h2 : x ≤ hi
    all_goals
      go_enter Try.func43, Try.ntmps43
      go_wp2
      go_ret
      exact ⟨by rw [HI.out]; simp [h1, h2], rfl⟩
  · go_enter Try.func43, Try.ntmps43
    go_wp2
    go_ret
    exact ⟨by rw [HI.out]; simp; omega, rfl⟩
set_option maxHeartbeats 400000 in
theorem impl_isH (x : Int) (w : World) :
    Calls Try.prog 72 #[.int .i64 x] w fun e w' => e = .returned (.bool (inIs x 1 1000000)) ∧ w' = w := by
  have HI : Hid (inIs x 1 1000000 = (decide (1 ≤ x) && decide (x ≤ 1000000))) := rfl
  by_cases h1 : 1 ≤ x
  · by_cases h2 : x ≤ 1000000
    all_goals
      go_enter Try.func72, Try.ntmps72
      go_wp2
      go_ret
      exact ⟨by rw [HI.out]; simp [h1, h2], rfl⟩
  · go_enter Try.func72, Try.ntmps72
    go_wp2
    go_ret
    exact ⟨by rw [HI.out]; simp; omega, rfl⟩
set_option maxHeartbeats 400000 in
theorem impl_isR (x : Int) (w : World) :
    Calls Try.prog 73 #[.int .i64 x] w fun e w' => e = .returned (.bool (inIs x 0 1000)) ∧ w' = w := by
  have HI : Hid (inIs x 0 1000 = (decide (0 ≤ x) && decide (x ≤ 1000))) := rfl
  by_cases h1 : 0 ≤ x
  · by_cases h2 : x ≤ 1000
    all_goals
      go_enter Try.func73, Try.ntmps73
      go_wp2
      go_ret
      exact ⟨by rw [HI.out]; simp [h1, h2], rfl⟩
  · go_enter Try.func73, Try.ntmps73
    go_wp2
    go_ret
    exact ⟨by rw [HI.out]; simp; omega, rfl⟩
set_option maxHeartbeats 400000 in
theorem impl_isV (x : Int) (w : World) :
    Calls Try.prog 57 #[.int .i64 x] w fun e w' => e = .returned (.bool (inIs x 1 99)) ∧ w' = w := by
  have HI : Hid (inIs x 1 99 = (decide (1 ≤ x) && decide (x ≤ 99))) := rfl
  by_cases h1 : 1 ≤ x
  · by_cases h2 : x ≤ 99
    all_goals
      go_enter Try.func57, Try.ntmps57
      go_wp2
      go_ret
      exact ⟨by rw [HI.out]; simp [h1, h2], rfl⟩
  · go_enter Try.func57, Try.ntmps57
    go_wp2
    go_ret
    exact ⟨by rw [HI.out]; simp; omega, rfl⟩
set_option maxHeartbeats 400000 in
theorem impl_isS (x : Int) (w : World) :
    Calls Try.prog 74 #[.int .i64 x] w fun e w' => e = .returned (.bool (inIs x 1 2)) ∧ w' = w := by
  have HI : Hid (inIs x 1 2 = (decide (1 ≤ x) && decide (x ≤ 2))) := rfl
  by_cases h1 : x = 1
  · go_enter Try.func74, Try.ntmps74
    go_wp2
    go_ret
    exact ⟨by rw [HI.out, h1]; rfl, rfl⟩
  · by_cases h2 : x = 2
    · go_enter Try.func74, Try.ntmps74
      go_wp2
      go_ret
      exact ⟨by rw [HI.out, h2]; rfl, rfl⟩
    · have HF : Hid (inIs x 1 2 = false) := in_no (by omega)
      go_enter Try.func74, Try.ntmps74
      go_wp2
      go_ret
      exact ⟨by rw [HF.out]; first | rfl | simp [h1, h2], rfl⟩
set_option maxHeartbeats 400000 in
theorem impl_isI (i : ByteArray) (w : World) :
    Calls Try.prog 75 #[.string i] w fun e w' => e = .returned (.bool (idB i)) ∧ w' = w := by
  have HI : Hid (idB i = (decide (i.size = 0) || decide (i.size = 8))) := rfl
  by_cases h1 : i = ByteArray.empty
  · subst h1
    go_enter Try.func75, Try.ntmps75
    go_wp2
    go_ret
    exact ⟨by rw [HI.out]; rfl, rfl⟩
  · have h0 : ¬ i.size = 0 := fun e => h1 (ByteArray.size_eq_zero_iff.1 e)
    have h0' : ¬ (i.size : Int) = 0 := by omega
    have HZ : Hid (¬ i.size = 0) := h0
    clear h0
    by_cases h2 : (i.size : Int) = 8
    · have HE : Hid (i.size = 8) := show i.size = 8 by omega
      go_enter Try.func75, Try.ntmps75
      go_wp2
      go_ret
      exact ⟨by rw [HI.out, HE.out]; rfl, rfl⟩
    · have HE : Hid (¬ i.size = 8) := show ¬ i.size = 8 by omega
      go_enter Try.func75, Try.ntmps75
      go_wp2
      go_ret
      exact ⟨by rw [HI.out, decide_eq_false HZ.out, decide_eq_false HE.out]; first | rfl | simp [h1, h2], rfl⟩
/-- A vote as a value, and as cells. -/
def tV (x : Vt) : Value := .agg #[.int .i64 x.h, .int .i64 x.r, .int .i64 x.s, .string x.i, .int .i64 x.v]
def tcs (x : Vt) : Array Value := #[.int .i64 x.h, .int .i64 x.r, .int .i64 x.s, .string x.i, .int .i64 x.v]
def Five (W : World) (g : Nat) (x : Vt) : Prop := W.cell? ⟨g, 0, none⟩ = some (.int .i64 x.h) ∧ W.cell? ⟨g, 1, none⟩ = some (.int .i64 x.r) ∧ W.cell? ⟨g, 2, none⟩ = some (.int .i64 x.s) ∧ W.cell? ⟨g, 3, none⟩ = some (.string x.i) ∧ W.cell? ⟨g, 4, none⟩ = some (.int .i64 x.v)
theorem Five.below {W W' : World} {g B : Nat} {x : Vt} (h : Five W g x) (hb : Below B W W') (hg : g < B) : Five W' g x := by
  obtain ⟨h0, h1, h2, h3, h4⟩ := h
  exact ⟨(hb.cell (p := ⟨g, 0, none⟩) hg).trans h0, (hb.cell (p := ⟨g, 1, none⟩) hg).trans h1, (hb.cell (p := ⟨g, 2, none⟩) hg).trans h2, (hb.cell (p := ⟨g, 3, none⟩) hg).trans h3, (hb.cell (p := ⟨g, 4, none⟩) hg).trans h4⟩
theorem Five.lt {W : World} {g : Nat} {x : Vt} (h : Five W g x) : g < W.heap.size := World.block_lt_of_cell? W _ h.1
theorem five_new (w : World) (x : Vt) (t : TypeId) : Five (w.alloc (.cells (tcs x) t)) w.heap.size x := by
  unfold Five tcs; simp
theorem empty_no {i : ByteArray} (h : ¬ i = ByteArray.empty) : i.toList.isEmpty = false := by
  rw [Go.ByteArray.toList_eq, ← Bool.not_eq_true, List.isEmpty_iff]
  intro e
  apply h
  have h1 : i.size = 0 := by rw [← ByteArray.size_data]; simpa using congrArg List.length e
  exact ByteArray.size_eq_zero_iff.1 h1
set_option maxHeartbeats 1600000 in
theorem spec_vok (x : Vt) (w : World) :
    Calls Try.prog 44 #[tV x] w fun e w' => e = .returned (.bool (voB x)) ∧ Below w.heap.size w w' := by
  obtain ⟨x0, x1, x2, x3, x4⟩ := five_new w x 31
  obtain ⟨h, r, s, i, v⟩ := x
  unfold tV
  unfold tcs at *
  simp only at *
  have HV : Hid (voB ⟨h, r, s, i, v⟩ = (inIs h 1 1000000 && (inIs r 0 1000 && (inIs s 1 2 && (idB i && inIs v 1 99))))) := rfl
  generalize voB ⟨h, r, s, i, v⟩ = R at *
  have k0 := fun W => spec_in h 1 1000000 W
  have k1 := fun W => spec_in r 0 1000 W
  have k2 := fun W => spec_in s 1 2 W
  have k4 := fun W => spec_in v 1 99 W
  generalize inIs h 1 1000000 = b0 at *
  generalize inIs r 0 1000 = b1 at *
  generalize inIs s 1 2 = b2 at *
  generalize inIs v 1 99 = b4 at *
  cases b0
  · go_enter Try.func44, Try.ntmps44
    go_wp2_with fail
    refine (k0 _).mono ?_
    rintro e w1 ⟨rfl, rfl⟩
    go_wp2
    go_ret
    exact ⟨by rw [HV.out]; rfl, (Below.refl _ _).alloc (Nat.le_refl _) _⟩
  · skip
    cases b1
    · go_enter Try.func44, Try.ntmps44
      go_wp2_with fail
      refine (k0 _).mono ?_
      rintro e w1 ⟨rfl, rfl⟩
      go_wp2_with fail
      refine (k1 _).mono ?_
      rintro e w1 ⟨rfl, rfl⟩
      go_wp2
      go_ret
      exact ⟨by rw [HV.out]; rfl, (Below.refl _ _).alloc (Nat.le_refl _) _⟩
    · skip
      cases b2
      · go_enter Try.func44, Try.ntmps44
        go_wp2_with fail
        refine (k0 _).mono ?_
        rintro e w1 ⟨rfl, rfl⟩
        go_wp2_with fail
        refine (k1 _).mono ?_
        rintro e w1 ⟨rfl, rfl⟩
        go_wp2_with fail
        refine (k2 _).mono ?_
        rintro e w1 ⟨rfl, rfl⟩
        go_wp2
        go_ret
        exact ⟨by rw [HV.out]; rfl, (Below.refl _ _).alloc (Nat.le_refl _) _⟩
      · skip
        by_cases g0 : i = ByteArray.empty
        · subst g0
          have HJ : Hid (idB ByteArray.empty = true) := rfl
          cases b4
          · go_enter Try.func44, Try.ntmps44
            go_wp2_with fail
            refine (k0 _).mono ?_
            rintro e w1 ⟨rfl, rfl⟩
            go_wp2_with fail
            refine (k1 _).mono ?_
            rintro e w1 ⟨rfl, rfl⟩
            go_wp2_with fail
            refine (k2 _).mono ?_
            rintro e w1 ⟨rfl, rfl⟩
            go_wp2_with fail
            refine (k4 _).mono ?_
            rintro e w1 ⟨rfl, rfl⟩
            go_wp2
            go_ret
            exact ⟨by rw [HV.out]; rw [HJ.out]; rfl, (Below.refl _ _).alloc (Nat.le_refl _) _⟩
          · go_enter Try.func44, Try.ntmps44
            go_wp2_with fail
            refine (k0 _).mono ?_
            rintro e w1 ⟨rfl, rfl⟩
            go_wp2_with fail
            refine (k1 _).mono ?_
            rintro e w1 ⟨rfl, rfl⟩
            go_wp2_with fail
            refine (k2 _).mono ?_
            rintro e w1 ⟨rfl, rfl⟩
            go_wp2_with fail
            refine (k4 _).mono ?_
            rintro e w1 ⟨rfl, rfl⟩
            go_wp2
            go_ret
            exact ⟨by rw [HV.out]; rw [HJ.out]; rfl, (Below.refl _ _).alloc (Nat.le_refl _) _⟩
        · have gz : ¬ (i.size : Int) = 0 := fun e => g0 (ByteArray.size_eq_zero_iff.1 (by omega))
          have ge : i.toList.isEmpty = false := empty_no g0
          by_cases g8 : (i.size : Int) = 8
          · have HJ : Hid (idB i = true) := by show _ = _; unfold idB; rw [decide_eq_true (p := i.size = 8) (by omega), Bool.or_true]
            cases b4
            · go_enter Try.func44, Try.ntmps44
              go_wp2_with fail
              refine (k0 _).mono ?_
              rintro e w1 ⟨rfl, rfl⟩
              go_wp2_with fail
              refine (k1 _).mono ?_
              rintro e w1 ⟨rfl, rfl⟩
              go_wp2_with fail
              refine (k2 _).mono ?_
              rintro e w1 ⟨rfl, rfl⟩
              go_wp2_with fail
              refine (k4 _).mono ?_
              rintro e w1 ⟨rfl, rfl⟩
              go_wp2
              go_ret
              exact ⟨by rw [HV.out]; rw [HJ.out]; rfl, (Below.refl _ _).alloc (Nat.le_refl _) _⟩
            · go_enter Try.func44, Try.ntmps44
              go_wp2_with fail
              refine (k0 _).mono ?_
              rintro e w1 ⟨rfl, rfl⟩
              go_wp2_with fail
              refine (k1 _).mono ?_
              rintro e w1 ⟨rfl, rfl⟩
              go_wp2_with fail
              refine (k2 _).mono ?_
              rintro e w1 ⟨rfl, rfl⟩
              go_wp2_with fail
              refine (k4 _).mono ?_
              rintro e w1 ⟨rfl, rfl⟩
              go_wp2
              go_ret
              exact ⟨by rw [HV.out]; rw [HJ.out]; rfl, (Below.refl _ _).alloc (Nat.le_refl _) _⟩
          · have HJ : Hid (idB i = false) := by show _ = _; unfold idB; rw [decide_eq_false (by omega), decide_eq_false (by omega)]; rfl
            go_enter Try.func44, Try.ntmps44
            go_wp2_with fail
            refine (k0 _).mono ?_
            rintro e w1 ⟨rfl, rfl⟩
            go_wp2_with fail
            refine (k1 _).mono ?_
            rintro e w1 ⟨rfl, rfl⟩
            go_wp2_with fail
            refine (k2 _).mono ?_
            rintro e w1 ⟨rfl, rfl⟩
            go_wp2
            go_ret
            exact ⟨by rw [HV.out]; rw [HJ.out]; rfl, (Below.refl _ _).alloc (Nat.le_refl _) _⟩
set_option maxHeartbeats 1600000 in
theorem impl_vok (x : Vt) (w : World) :
    Calls Try.prog 51 #[tV x] w fun e w' => e = .returned (.bool (voB x)) ∧ Below w.heap.size w w' := by
  obtain ⟨x0, x1, x2, x3, x4⟩ := five_new w x 31
  obtain ⟨h, r, s, i, v⟩ := x
  unfold tV
  unfold tcs at *
  simp only at *
  have HV : Hid (voB ⟨h, r, s, i, v⟩ = (inIs h 1 1000000 && (inIs r 0 1000 && (inIs s 1 2 && (idB i && inIs v 1 99))))) := rfl
  generalize voB ⟨h, r, s, i, v⟩ = R at *
  have k0 := fun W => impl_isH h W
  have k1 := fun W => impl_isR r W
  have k2 := fun W => impl_isS s W
  have k3 := fun W => impl_isI i W
  have k4 := fun W => impl_isV v W
  generalize inIs h 1 1000000 = b0 at *
  generalize inIs r 0 1000 = b1 at *
  generalize inIs s 1 2 = b2 at *
  generalize inIs v 1 99 = b4 at *
  generalize idB i = b3 at *
  cases b0
  · go_enter Try.func51, Try.ntmps51
    go_wp2_with fail
    refine (k0 _).mono ?_
    rintro e w1 ⟨rfl, rfl⟩
    go_wp2
    go_ret
    exact ⟨by rw [HV.out]; rfl, (Below.refl _ _).alloc (Nat.le_refl _) _⟩
  · skip
    cases b1
    · go_enter Try.func51, Try.ntmps51
      go_wp2_with fail
      refine (k0 _).mono ?_
      rintro e w1 ⟨rfl, rfl⟩
      go_wp2_with fail
      refine (k1 _).mono ?_
      rintro e w1 ⟨rfl, rfl⟩
      go_wp2
      go_ret
      exact ⟨by rw [HV.out]; rfl, (Below.refl _ _).alloc (Nat.le_refl _) _⟩
    · skip
      cases b2
      · go_enter Try.func51, Try.ntmps51
        go_wp2_with fail
        refine (k0 _).mono ?_
        rintro e w1 ⟨rfl, rfl⟩
        go_wp2_with fail
        refine (k1 _).mono ?_
        rintro e w1 ⟨rfl, rfl⟩
        go_wp2_with fail
        refine (k2 _).mono ?_
        rintro e w1 ⟨rfl, rfl⟩
        go_wp2
        go_ret
        exact ⟨by rw [HV.out]; rfl, (Below.refl _ _).alloc (Nat.le_refl _) _⟩
      · skip
        cases b3
        · go_enter Try.func51, Try.ntmps51
          go_wp2_with fail
          refine (k0 _).mono ?_
          rintro e w1 ⟨rfl, rfl⟩
          go_wp2_with fail
          refine (k1 _).mono ?_
          rintro e w1 ⟨rfl, rfl⟩
          go_wp2_with fail
          refine (k2 _).mono ?_
          rintro e w1 ⟨rfl, rfl⟩
          go_wp2_with fail
          refine (k3 _).mono ?_
          rintro e w1 ⟨rfl, rfl⟩
          go_wp2
          go_ret
          exact ⟨by rw [HV.out]; rfl, (Below.refl _ _).alloc (Nat.le_refl _) _⟩
        · cases b4
          · go_enter Try.func51, Try.ntmps51
            go_wp2_with fail
            refine (k0 _).mono ?_
            rintro e w1 ⟨rfl, rfl⟩
            go_wp2_with fail
            refine (k1 _).mono ?_
            rintro e w1 ⟨rfl, rfl⟩
            go_wp2_with fail
            refine (k2 _).mono ?_
            rintro e w1 ⟨rfl, rfl⟩
            go_wp2_with fail
            refine (k3 _).mono ?_
            rintro e w1 ⟨rfl, rfl⟩
            go_wp2_with fail
            refine (k4 _).mono ?_
            rintro e w1 ⟨rfl, rfl⟩
            go_wp2
            go_ret
            exact ⟨by rw [HV.out]; rfl, (Below.refl _ _).alloc (Nat.le_refl _) _⟩
          · go_enter Try.func51, Try.ntmps51
            go_wp2_with fail
            refine (k0 _).mono ?_
            rintro e w1 ⟨rfl, rfl⟩
            go_wp2_with fail
            refine (k1 _).mono ?_
            rintro e w1 ⟨rfl, rfl⟩
            go_wp2_with fail
            refine (k2 _).mono ?_
            rintro e w1 ⟨rfl, rfl⟩
            go_wp2_with fail
            refine (k3 _).mono ?_
            rintro e w1 ⟨rfl, rfl⟩
            go_wp2_with fail
            refine (k4 _).mono ?_
            rintro e w1 ⟨rfl, rfl⟩
            go_wp2
            go_ret
            exact ⟨by rw [HV.out]; rfl, (Below.refl _ _).alloc (Nat.le_refl _) _⟩
end Go.Proofs.Ytmjlpdmdpagggaa
