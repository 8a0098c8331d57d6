/- What spec.l1In, impl.isHeight, impl.isTime, impl.lastBytes and the two HeaderOk answer; old memory stays. Conditions: none of ours. -/
import Derived.Test.YtajfmjgaaapjeaaGreatDoorG4
namespace Go.Proofs.YtajfmjgaaapjeaaGreatDoor
open Go.RowKit
open Num
set_option linter.unusedVariables false
/-- A header as a value. -/
def hV (x : H) : Value := .agg #[.int .i64 x.h, .int .i64 x.t, .string x.a, .string x.v, .string x.n, .string x.d]
def hcs (x : H) : Array Value := #[.int .i64 x.h, .int .i64 x.t, .string x.a, .string x.v, .string x.n, .string x.d]
set_option maxHeartbeats 400000 in
set_option maxRecDepth 100000 in
theorem impl_isT (x : Int) (w : World) :
    Calls Tryz.prog 71 #[.int .i64 x] w fun e w' => e = .returned (.bool (inIs x 0 1000000)) ∧ w' = w := by
  have HI : Hid (inIs x 0 1000000 = (decide (0 ≤ x) && decide (x ≤ 1000000))) := rfl
  by_cases h1 : 0 ≤ x
  · by_cases h2 : x ≤ 1000000
    all_goals
      go_enter Tryz.func71, Tryz.ntmps71
      go_wp2
      go_ret
      exact ⟨by rw [HI.out]; simp [h1, h2], rfl⟩
  · go_enter Tryz.func71, Tryz.ntmps71
    go_wp2
    go_ret
    exact ⟨by rw [HI.out]; simp; omega, rfl⟩
set_option maxHeartbeats 400000 in
set_option maxRecDepth 100000 in
theorem impl_last (x : Int) (w : World) :
    Calls Tryz.prog 94 #[.int .i64 x] w fun e w' => e = .returned (.int .i64 (lastB x)) ∧ w' = w := by
  by_cases h1 : x = 1
  · have HI : Hid (lastB x = 0) := by show _ = _; unfold lastB; rw [if_pos h1]
    go_enter Tryz.func94, Tryz.ntmps94
    go_wp2
    go_ret
    exact ⟨by rw [HI.out]; rfl, rfl⟩
  · have HI : Hid (lastB x = 8) := by show _ = _; unfold lastB; rw [if_neg h1]
    go_enter Tryz.func94, Tryz.ntmps94
    go_wp2
    go_ret
    exact ⟨by rw [HI.out]; rfl, rfl⟩
theorem six_cells (w : World) (x : H) : (w.alloc (.cells (hcs x) 27)).cell? ⟨w.heap.size, 0, none⟩ = some (.int .i64 x.h) ∧ (w.alloc (.cells (hcs x) 27)).cell? ⟨w.heap.size, 1, none⟩ = some (.int .i64 x.t) ∧
    (w.alloc (.cells (hcs x) 27)).cell? ⟨w.heap.size, 2, none⟩ = some (.string x.a) ∧ (w.alloc (.cells (hcs x) 27)).cell? ⟨w.heap.size, 3, none⟩ = some (.string x.v) ∧
    (w.alloc (.cells (hcs x) 27)).cell? ⟨w.heap.size, 4, none⟩ = some (.string x.n) ∧ (w.alloc (.cells (hcs x) 27)).cell? ⟨w.heap.size, 5, none⟩ = some (.string x.d) := by
  unfold hcs; simp
theorem ok_no {h t : Int} {a v n d : ByteArray} {k : Int} (hk : lastB h = k) (g : ¬ (1 ≤ h ∧ h ≤ 1000000) ∨ ¬ (0 ≤ t ∧ t ≤ 1000000) ∨ ¬ (a.size : Int) = k ∨ ¬ (d.size : Int) ≤ 20 ∨ ¬ (v.size : Int) = 8 ∨ ¬ (n.size : Int) = 8) : hOk ⟨h, t, a, v, n, d⟩ = false := by
  refine hOk_no ?_
  simp only
  rw [hk]
  omega
theorem ok_yes {h t : Int} {a v n d : ByteArray} {k : Int} (hk : lastB h = k) (h1 : 1 ≤ h ∧ h ≤ 1000000) (h2 : 0 ≤ t ∧ t ≤ 1000000) (h3 : (a.size : Int) = k) (h4 : (d.size : Int) ≤ 20) (h5 : (v.size : Int) = 8) (h6 : (n.size : Int) = 8) : hOk ⟨h, t, a, v, n, d⟩ = true := by
  rw [hOk_iff]
  simp only
  rw [hk]
  omega
set_option maxHeartbeats 3200000 in
set_option maxRecDepth 100000 in
theorem spec_ok (x : H) (w : World) :
    Calls Tryz.prog 43 #[hV x] w fun e w' => e = .returned (.bool (hOk x)) ∧ Below w.heap.size w w' := by
  obtain ⟨c0, c1, c2, c3, c4, c5⟩ := six_cells w x
  obtain ⟨h, t, a, v, n, d⟩ := x
  unfold hV
  unfold hcs at *
  simp only at *
  by_cases hE : h = 1
  · subst hE
    have HK : Hid (lastB 1 = 0) := by show _ = _; unfold lastB; rw [if_pos rfl]
    have Gh : Hid ((1 : Int) ≤ 1 ∧ (1 : Int) ≤ 1000000) := ⟨by decide, by decide⟩
    by_cases gt : 0 ≤ t ∧ t ≤ 1000000
    · have Gt : Hid (0 ≤ t ∧ t ≤ 1000000) := gt
      clear gt
      by_cases gv : (v.size : Int) = 8
      · have Gv : Hid ((v.size : Int) = 8) := gv
        by_cases gn : (n.size : Int) = 8
        · have Gn : Hid ((n.size : Int) = 8) := gn
          by_cases g0 : a = ByteArray.empty
          · subst g0
            have Ga : Hid ((ByteArray.empty.size : Int) = 0) := rfl
            by_cases gd : (d.size : Int) ≤ 20
            · have Gd : Hid ((d.size : Int) ≤ 20) := gd
              rw [ok_yes HK.out Gh.out Gt.out Ga.out Gd.out Gv.out Gn.out]
              have kh := fun W => spec_in 1 1 1000000 W; rw [in_yes Gh.out] at kh
              have kt := fun W => spec_in t 0 1000000 W; rw [in_yes Gt.out] at kt
              go_enter Tryz.func43, Tryz.ntmps43
              go_wp2_with fail
              refine (kh _).mono ?_
              rintro e w1 ⟨rfl, rfl⟩
              go_wp2_with fail
              refine (kt _).mono ?_
              rintro e w1 ⟨rfl, rfl⟩
              go_wp2
              go_ret
              exact ⟨by first | rfl | (simp; omega), by first | exact (Below.refl _ _).alloc (Nat.le_refl _) _ | exact below_drewN ((Below.refl _ _).alloc (Nat.le_refl _) _) _⟩
            · rw [ok_no HK.out (.inr (.inr (.inr (.inl gd))))]
              have gd2 : (20 : Int) < (d.size : Int) := by omega
              have kh := fun W => spec_in 1 1 1000000 W; rw [in_yes Gh.out] at kh
              have kt := fun W => spec_in t 0 1000000 W; rw [in_yes Gt.out] at kt
              go_enter Tryz.func43, Tryz.ntmps43
              go_wp2_with fail
              refine (kh _).mono ?_
              rintro e w1 ⟨rfl, rfl⟩
              go_wp2_with fail
              refine (kt _).mono ?_
              rintro e w1 ⟨rfl, rfl⟩
              go_wp2
              go_ret
              exact ⟨by first | rfl | (simp; omega), by first | exact (Below.refl _ _).alloc (Nat.le_refl _) _ | exact below_drewN ((Below.refl _ _).alloc (Nat.le_refl _) _) _⟩
          · have ga : ¬ (a.size : Int) = 0 := fun e => g0 (ByteArray.size_eq_zero_iff.1 (by omega))
            rw [ok_no HK.out (.inr (.inr (.inl ga)))]
            have kh := fun W => spec_in 1 1 1000000 W; rw [in_yes Gh.out] at kh
            have kt := fun W => spec_in t 0 1000000 W; rw [in_yes Gt.out] at kt
            go_enter Tryz.func43, Tryz.ntmps43
            go_wp2_with fail
            refine (kh _).mono ?_
            rintro e w1 ⟨rfl, rfl⟩
            go_wp2_with fail
            refine (kt _).mono ?_
            rintro e w1 ⟨rfl, rfl⟩
            go_wp2
            go_ret
            exact ⟨by first | rfl | (simp; omega), by first | exact (Below.refl _ _).alloc (Nat.le_refl _) _ | exact below_drewN ((Below.refl _ _).alloc (Nat.le_refl _) _) _⟩
        · rw [ok_no HK.out (.inr (.inr (.inr (.inr (.inr (gn))))))]
          have kh := fun W => spec_in 1 1 1000000 W; rw [in_yes Gh.out] at kh
          have kt := fun W => spec_in t 0 1000000 W; rw [in_yes Gt.out] at kt
          go_enter Tryz.func43, Tryz.ntmps43
          go_wp2_with fail
          refine (kh _).mono ?_
          rintro e w1 ⟨rfl, rfl⟩
          go_wp2_with fail
          refine (kt _).mono ?_
          rintro e w1 ⟨rfl, rfl⟩
          go_wp2
          go_ret
          exact ⟨by first | rfl | (simp; omega), by first | exact (Below.refl _ _).alloc (Nat.le_refl _) _ | exact below_drewN ((Below.refl _ _).alloc (Nat.le_refl _) _) _⟩
      · rw [ok_no HK.out (.inr (.inr (.inr (.inr (.inl gv)))))]
        have kh := fun W => spec_in 1 1 1000000 W; rw [in_yes Gh.out] at kh
        have kt := fun W => spec_in t 0 1000000 W; rw [in_yes Gt.out] at kt
        go_enter Tryz.func43, Tryz.ntmps43
        go_wp2_with fail
        refine (kh _).mono ?_
        rintro e w1 ⟨rfl, rfl⟩
        go_wp2_with fail
        refine (kt _).mono ?_
        rintro e w1 ⟨rfl, rfl⟩
        go_wp2
        go_ret
        exact ⟨by first | rfl | (simp; omega), by first | exact (Below.refl _ _).alloc (Nat.le_refl _) _ | exact below_drewN ((Below.refl _ _).alloc (Nat.le_refl _) _) _⟩
    · rw [ok_no HK.out (.inr (.inl gt))]
      have Gt : Hid (¬ (0 ≤ t ∧ t ≤ 1000000)) := gt
      clear gt
      have kh := fun W => spec_in 1 1 1000000 W; rw [in_yes Gh.out] at kh
      have kt := fun W => spec_in t 0 1000000 W; rw [in_no Gt.out] at kt
      go_enter Tryz.func43, Tryz.ntmps43
      go_wp2_with fail
      refine (kh _).mono ?_
      rintro e w1 ⟨rfl, rfl⟩
      go_wp2_with fail
      refine (kt _).mono ?_
      rintro e w1 ⟨rfl, rfl⟩
      go_wp2
      go_ret
      exact ⟨by first | rfl | (simp; omega), by first | exact (Below.refl _ _).alloc (Nat.le_refl _) _ | exact below_drewN ((Below.refl _ _).alloc (Nat.le_refl _) _) _⟩
  · have HK : Hid (lastB h = 8) := by show _ = _; unfold lastB; rw [if_neg hE]
    by_cases gh : 1 ≤ h ∧ h ≤ 1000000
    · have Gh : Hid (1 ≤ h ∧ h ≤ 1000000) := gh
      clear gh
      by_cases gt : 0 ≤ t ∧ t ≤ 1000000
      · have Gt : Hid (0 ≤ t ∧ t ≤ 1000000) := gt
        clear gt
        by_cases gv : (v.size : Int) = 8
        · have Gv : Hid ((v.size : Int) = 8) := gv
          by_cases gn : (n.size : Int) = 8
          · have Gn : Hid ((n.size : Int) = 8) := gn
            by_cases ga : (a.size : Int) = 8
            · have Ga : Hid ((a.size : Int) = 8) := ga
              by_cases gd : (d.size : Int) ≤ 20
              · have Gd : Hid ((d.size : Int) ≤ 20) := gd
                rw [ok_yes HK.out Gh.out Gt.out Ga.out Gd.out Gv.out Gn.out]
                have kh := fun W => spec_in h 1 1000000 W; rw [in_yes Gh.out] at kh
                have kt := fun W => spec_in t 0 1000000 W; rw [in_yes Gt.out] at kt
                go_enter Tryz.func43, Tryz.ntmps43
                go_wp2_with fail
                refine (kh _).mono ?_
                rintro e w1 ⟨rfl, rfl⟩
                go_wp2_with fail
                refine (kt _).mono ?_
                rintro e w1 ⟨rfl, rfl⟩
                go_wp2
                go_ret
                exact ⟨by first | rfl | (simp; omega), by first | exact (Below.refl _ _).alloc (Nat.le_refl _) _ | exact below_drewN ((Below.refl _ _).alloc (Nat.le_refl _) _) _⟩
              · rw [ok_no HK.out (.inr (.inr (.inr (.inl gd))))]
                have gd2 : (20 : Int) < (d.size : Int) := by omega
                have kh := fun W => spec_in h 1 1000000 W; rw [in_yes Gh.out] at kh
                have kt := fun W => spec_in t 0 1000000 W; rw [in_yes Gt.out] at kt
                go_enter Tryz.func43, Tryz.ntmps43
                go_wp2_with fail
                refine (kh _).mono ?_
                rintro e w1 ⟨rfl, rfl⟩
                go_wp2_with fail
                refine (kt _).mono ?_
                rintro e w1 ⟨rfl, rfl⟩
                go_wp2
                go_ret
                exact ⟨by first | rfl | (simp; omega), by first | exact (Below.refl _ _).alloc (Nat.le_refl _) _ | exact below_drewN ((Below.refl _ _).alloc (Nat.le_refl _) _) _⟩
            · rw [ok_no HK.out (.inr (.inr (.inl ga)))]
              have kh := fun W => spec_in h 1 1000000 W; rw [in_yes Gh.out] at kh
              have kt := fun W => spec_in t 0 1000000 W; rw [in_yes Gt.out] at kt
              go_enter Tryz.func43, Tryz.ntmps43
              go_wp2_with fail
              refine (kh _).mono ?_
              rintro e w1 ⟨rfl, rfl⟩
              go_wp2_with fail
              refine (kt _).mono ?_
              rintro e w1 ⟨rfl, rfl⟩
              go_wp2
              go_ret
              exact ⟨by first | rfl | (simp; omega), by first | exact (Below.refl _ _).alloc (Nat.le_refl _) _ | exact below_drewN ((Below.refl _ _).alloc (Nat.le_refl _) _) _⟩
          · rw [ok_no HK.out (.inr (.inr (.inr (.inr (.inr (gn))))))]
            have kh := fun W => spec_in h 1 1000000 W; rw [in_yes Gh.out] at kh
            have kt := fun W => spec_in t 0 1000000 W; rw [in_yes Gt.out] at kt
            go_enter Tryz.func43, Tryz.ntmps43
            go_wp2_with fail
            refine (kh _).mono ?_
            rintro e w1 ⟨rfl, rfl⟩
            go_wp2_with fail
            refine (kt _).mono ?_
            rintro e w1 ⟨rfl, rfl⟩
            go_wp2
            go_ret
            exact ⟨by first | rfl | (simp; omega), by first | exact (Below.refl _ _).alloc (Nat.le_refl _) _ | exact below_drewN ((Below.refl _ _).alloc (Nat.le_refl _) _) _⟩
        · rw [ok_no HK.out (.inr (.inr (.inr (.inr (.inl gv)))))]
          have kh := fun W => spec_in h 1 1000000 W; rw [in_yes Gh.out] at kh
          have kt := fun W => spec_in t 0 1000000 W; rw [in_yes Gt.out] at kt
          go_enter Tryz.func43, Tryz.ntmps43
          go_wp2_with fail
          refine (kh _).mono ?_
          rintro e w1 ⟨rfl, rfl⟩
          go_wp2_with fail
          refine (kt _).mono ?_
          rintro e w1 ⟨rfl, rfl⟩
          go_wp2
          go_ret
          exact ⟨by first | rfl | (simp; omega), by first | exact (Below.refl _ _).alloc (Nat.le_refl _) _ | exact below_drewN ((Below.refl _ _).alloc (Nat.le_refl _) _) _⟩
      · rw [ok_no HK.out (.inr (.inl gt))]
        have Gt : Hid (¬ (0 ≤ t ∧ t ≤ 1000000)) := gt
        clear gt
        have kh := fun W => spec_in h 1 1000000 W; rw [in_yes Gh.out] at kh
        have kt := fun W => spec_in t 0 1000000 W; rw [in_no Gt.out] at kt
        go_enter Tryz.func43, Tryz.ntmps43
        go_wp2_with fail
        refine (kh _).mono ?_
        rintro e w1 ⟨rfl, rfl⟩
        go_wp2_with fail
        refine (kt _).mono ?_
        rintro e w1 ⟨rfl, rfl⟩
        go_wp2
        go_ret
        exact ⟨by first | rfl | (simp; omega), by first | exact (Below.refl _ _).alloc (Nat.le_refl _) _ | exact below_drewN ((Below.refl _ _).alloc (Nat.le_refl _) _) _⟩
    · rw [ok_no HK.out (.inl gh)]
      have Gh : Hid (¬ (1 ≤ h ∧ h ≤ 1000000)) := gh
      clear gh
      have kh := fun W => spec_in h 1 1000000 W; rw [in_no Gh.out] at kh
      go_enter Tryz.func43, Tryz.ntmps43
      go_wp2_with fail
      refine (kh _).mono ?_
      rintro e w1 ⟨rfl, rfl⟩
      go_wp2
      go_ret
      exact ⟨by first | rfl | (simp; omega), by first | exact (Below.refl _ _).alloc (Nat.le_refl _) _ | exact below_drewN ((Below.refl _ _).alloc (Nat.le_refl _) _) _⟩
end Go.Proofs.YtajfmjgaaapjeaaGreatDoor
