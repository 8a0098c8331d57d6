/- What impl.HeaderOk answers; old memory stays. Conditions: none of ours. -/
import Derived.Test.YtajfmjgaaapjeaaGreatDoorHo
import Derived.WalkSmall
namespace Go.Proofs.YtajfmjgaaapjeaaGreatDoor
open Go.RowKit
open Num
set_option linter.unusedVariables false
set_option maxHeartbeats 3200000 in
set_option maxRecDepth 100000 in
theorem impl_ok (x : H) (w : World) :
    Calls Tryz.prog 70 #[hV x] w fun e w' => e = .returned (.bool (hOk x)) ∧ Below w.heap.size w w' := by
  obtain ⟨c0, c1, c2, c3, c4, c5⟩ := six_cells w x
  obtain ⟨h, t, a, v, n, d⟩ := x
  unfold hV
  unfold hcs at *
  simp only at *
  by_cases hE : h = 1
  · subst hE
    have HK : Hid (lastB 1 = 0) := by show _ = _; unfold lastB; rw [if_pos rfl]
    have Gh : Hid ((1 : Int) ≤ 1 ∧ (1 : Int) ≤ 1000000) := ⟨by decide, by decide⟩
    by_cases gt : 0 ≤ t ∧ t ≤ 1000000
    · have Gt : Hid (0 ≤ t ∧ t ≤ 1000000) := gt
      clear gt
      by_cases g0 : a = ByteArray.empty
      · subst g0
        have Ga : Hid ((ByteArray.empty.size : Int) = 0) := rfl
        by_cases gd : (d.size : Int) ≤ 20
        · have Gd : Hid ((d.size : Int) ≤ 20) := gd
          by_cases gv : (v.size : Int) = 8
          · have Gv : Hid ((v.size : Int) = 8) := gv
            by_cases gn : (n.size : Int) = 8
            · have Gn : Hid ((n.size : Int) = 8) := gn
              rw [ok_yes HK.out Gh.out Gt.out Ga.out Gd.out Gv.out Gn.out]
              have kh := fun W => impl_isH 1 W; rw [in_yes Gh.out] at kh
              have kt := fun W => impl_isT t W; rw [in_yes Gt.out] at kt
              have kl := fun W => impl_last 1 W; rw [HK.out] at kl
              go_enter Tryz.func70, Tryz.ntmps70
              go_wp2_with fail
              refine (kh _).mono ?_
              rintro e w1 ⟨rfl, rfl⟩
              go_wp2_with fail
              refine (kt _).mono ?_
              rintro e w1 ⟨rfl, rfl⟩
              go_wp2_with fail
              go_quiet ((go_at_call 94; refine Calls.quiet_of_same (kl _) <;> decide))
              go_wp2
              go_ret
              exact ⟨by first | rfl | (simp; omega), by first | exact (Below.refl _ _).alloc (Nat.le_refl _) _ | exact below_drewN ((Below.refl _ _).alloc (Nat.le_refl _) _) _⟩
            · rw [ok_no HK.out (.inr (.inr (.inr (.inr (.inr (gn))))))]
              have kh := fun W => impl_isH 1 W; rw [in_yes Gh.out] at kh
              have kt := fun W => impl_isT t W; rw [in_yes Gt.out] at kt
              have kl := fun W => impl_last 1 W; rw [HK.out] at kl
              go_enter Tryz.func70, Tryz.ntmps70
              go_wp2_with fail
              refine (kh _).mono ?_
              rintro e w1 ⟨rfl, rfl⟩
              go_wp2_with fail
              refine (kt _).mono ?_
              rintro e w1 ⟨rfl, rfl⟩
              go_wp2_with fail
              go_quiet ((go_at_call 94; refine Calls.quiet_of_same (kl _) <;> decide))
              go_wp2
              go_ret
              exact ⟨by first | rfl | (simp; omega), by first | exact (Below.refl _ _).alloc (Nat.le_refl _) _ | exact below_drewN ((Below.refl _ _).alloc (Nat.le_refl _) _) _⟩
          · rw [ok_no HK.out (.inr (.inr (.inr (.inr (.inl gv)))))]
            have kh := fun W => impl_isH 1 W; rw [in_yes Gh.out] at kh
            have kt := fun W => impl_isT t W; rw [in_yes Gt.out] at kt
            have kl := fun W => impl_last 1 W; rw [HK.out] at kl
            go_enter Tryz.func70, Tryz.ntmps70
            go_wp2_with fail
            refine (kh _).mono ?_
            rintro e w1 ⟨rfl, rfl⟩
            go_wp2_with fail
            refine (kt _).mono ?_
            rintro e w1 ⟨rfl, rfl⟩
            go_wp2_with fail
            go_quiet ((go_at_call 94; refine Calls.quiet_of_same (kl _) <;> decide))
            go_wp2
            go_ret
            exact ⟨by first | rfl | (simp; omega), by first | exact (Below.refl _ _).alloc (Nat.le_refl _) _ | exact below_drewN ((Below.refl _ _).alloc (Nat.le_refl _) _) _⟩
        · rw [ok_no HK.out (.inr (.inr (.inr (.inl gd))))]
          have gd2 : (20 : Int) < (d.size : Int) := by omega
          have kh := fun W => impl_isH 1 W; rw [in_yes Gh.out] at kh
          have kt := fun W => impl_isT t W; rw [in_yes Gt.out] at kt
          have kl := fun W => impl_last 1 W; rw [HK.out] at kl
          go_enter Tryz.func70, Tryz.ntmps70
          go_wp2_with fail
          refine (kh _).mono ?_
          rintro e w1 ⟨rfl, rfl⟩
          go_wp2_with fail
          refine (kt _).mono ?_
          rintro e w1 ⟨rfl, rfl⟩
          go_wp2_with fail
          go_quiet ((go_at_call 94; refine Calls.quiet_of_same (kl _) <;> decide))
          go_wp2
          go_ret
          exact ⟨by first | rfl | (simp; omega), by first | exact (Below.refl _ _).alloc (Nat.le_refl _) _ | exact below_drewN ((Below.refl _ _).alloc (Nat.le_refl _) _) _⟩
      · have ga : ¬ (a.size : Int) = 0 := fun e => g0 (ByteArray.size_eq_zero_iff.1 (by omega))
        rw [ok_no HK.out (.inr (.inr (.inl ga)))]
        have kh := fun W => impl_isH 1 W; rw [in_yes Gh.out] at kh
        have kt := fun W => impl_isT t W; rw [in_yes Gt.out] at kt
        have kl := fun W => impl_last 1 W; rw [HK.out] at kl
        go_enter Tryz.func70, Tryz.ntmps70
        go_wp2_with fail
        refine (kh _).mono ?_
        rintro e w1 ⟨rfl, rfl⟩
        go_wp2_with fail
        refine (kt _).mono ?_
        rintro e w1 ⟨rfl, rfl⟩
        go_wp2_with fail
        go_quiet ((go_at_call 94; refine Calls.quiet_of_same (kl _) <;> decide))
        go_wp2
        go_ret
        exact ⟨by first | rfl | (simp; omega), by first | exact (Below.refl _ _).alloc (Nat.le_refl _) _ | exact below_drewN ((Below.refl _ _).alloc (Nat.le_refl _) _) _⟩
    · rw [ok_no HK.out (.inr (.inl gt))]
      have Gt : Hid (¬ (0 ≤ t ∧ t ≤ 1000000)) := gt
      clear gt
      have kh := fun W => impl_isH 1 W; rw [in_yes Gh.out] at kh
      have kt := fun W => impl_isT t W; rw [in_no Gt.out] at kt
      have kl := fun W => impl_last 1 W; rw [HK.out] at kl
      go_enter Tryz.func70, Tryz.ntmps70
      go_wp2_with fail
      refine (kh _).mono ?_
      rintro e w1 ⟨rfl, rfl⟩
      go_wp2_with fail
      refine (kt _).mono ?_
      rintro e w1 ⟨rfl, rfl⟩
      go_wp2
      go_ret
      exact ⟨by first | rfl | (simp; omega), by first | exact (Below.refl _ _).alloc (Nat.le_refl _) _ | exact below_drewN ((Below.refl _ _).alloc (Nat.le_refl _) _) _⟩
  · have HK : Hid (lastB h = 8) := by show _ = _; unfold lastB; rw [if_neg hE]
    by_cases gh : 1 ≤ h ∧ h ≤ 1000000
    · have Gh : Hid (1 ≤ h ∧ h ≤ 1000000) := gh
      clear gh
      by_cases gt : 0 ≤ t ∧ t ≤ 1000000
      · have Gt : Hid (0 ≤ t ∧ t ≤ 1000000) := gt
        clear gt
        by_cases ga : (a.size : Int) = 8
        · have Ga : Hid ((a.size : Int) = 8) := ga
          by_cases gd : (d.size : Int) ≤ 20
          · have Gd : Hid ((d.size : Int) ≤ 20) := gd
            by_cases gv : (v.size : Int) = 8
            · have Gv : Hid ((v.size : Int) = 8) := gv
              by_cases gn : (n.size : Int) = 8
              · have Gn : Hid ((n.size : Int) = 8) := gn
                rw [ok_yes HK.out Gh.out Gt.out Ga.out Gd.out Gv.out Gn.out]
                have kh := fun W => impl_isH h W; rw [in_yes Gh.out] at kh
                have kt := fun W => impl_isT t W; rw [in_yes Gt.out] at kt
                have kl := fun W => impl_last h W; rw [HK.out] at kl
                go_enter Tryz.func70, Tryz.ntmps70
                go_wp2_with fail
                refine (kh _).mono ?_
                rintro e w1 ⟨rfl, rfl⟩
                go_wp2_with fail
                refine (kt _).mono ?_
                rintro e w1 ⟨rfl, rfl⟩
                go_wp2_with fail
                go_quiet ((go_at_call 94; refine Calls.quiet_of_same (kl _) <;> decide))
                go_wp2
                go_ret
                exact ⟨by first | rfl | (simp; omega), by first | exact (Below.refl _ _).alloc (Nat.le_refl _) _ | exact below_drewN ((Below.refl _ _).alloc (Nat.le_refl _) _) _⟩
              · rw [ok_no HK.out (.inr (.inr (.inr (.inr (.inr (gn))))))]
                have kh := fun W => impl_isH h W; rw [in_yes Gh.out] at kh
                have kt := fun W => impl_isT t W; rw [in_yes Gt.out] at kt
                have kl := fun W => impl_last h W; rw [HK.out] at kl
                go_enter Tryz.func70, Tryz.ntmps70
                go_wp2_with fail
                refine (kh _).mono ?_
                rintro e w1 ⟨rfl, rfl⟩
                go_wp2_with fail
                refine (kt _).mono ?_
                rintro e w1 ⟨rfl, rfl⟩
                go_wp2_with fail
                go_quiet ((go_at_call 94; refine Calls.quiet_of_same (kl _) <;> decide))
                go_wp2
                go_ret
                exact ⟨by first | rfl | (simp; omega), by first | exact (Below.refl _ _).alloc (Nat.le_refl _) _ | exact below_drewN ((Below.refl _ _).alloc (Nat.le_refl _) _) _⟩
            · rw [ok_no HK.out (.inr (.inr (.inr (.inr (.inl gv)))))]
              have kh := fun W => impl_isH h W; rw [in_yes Gh.out] at kh
              have kt := fun W => impl_isT t W; rw [in_yes Gt.out] at kt
              have kl := fun W => impl_last h W; rw [HK.out] at kl
              go_enter Tryz.func70, Tryz.ntmps70
              go_wp2_with fail
              refine (kh _).mono ?_
              rintro e w1 ⟨rfl, rfl⟩
              go_wp2_with fail
              refine (kt _).mono ?_
              rintro e w1 ⟨rfl, rfl⟩
              go_wp2_with fail
              go_quiet ((go_at_call 94; refine Calls.quiet_of_same (kl _) <;> decide))
              go_wp2
              go_ret
              exact ⟨by first | rfl | (simp; omega), by first | exact (Below.refl _ _).alloc (Nat.le_refl _) _ | exact below_drewN ((Below.refl _ _).alloc (Nat.le_refl _) _) _⟩
          · rw [ok_no HK.out (.inr (.inr (.inr (.inl gd))))]
            have gd2 : (20 : Int) < (d.size : Int) := by omega
            have kh := fun W => impl_isH h W; rw [in_yes Gh.out] at kh
            have kt := fun W => impl_isT t W; rw [in_yes Gt.out] at kt
            have kl := fun W => impl_last h W; rw [HK.out] at kl
            go_enter Tryz.func70, Tryz.ntmps70
            go_wp2_with fail
            refine (kh _).mono ?_
            rintro e w1 ⟨rfl, rfl⟩
            go_wp2_with fail
            refine (kt _).mono ?_
            rintro e w1 ⟨rfl, rfl⟩
            go_wp2_with fail
            go_quiet ((go_at_call 94; refine Calls.quiet_of_same (kl _) <;> decide))
            go_wp2
            go_ret
            exact ⟨by first | rfl | (simp; omega), by first | exact (Below.refl _ _).alloc (Nat.le_refl _) _ | exact below_drewN ((Below.refl _ _).alloc (Nat.le_refl _) _) _⟩
        · rw [ok_no HK.out (.inr (.inr (.inl ga)))]
          have kh := fun W => impl_isH h W; rw [in_yes Gh.out] at kh
          have kt := fun W => impl_isT t W; rw [in_yes Gt.out] at kt
          have kl := fun W => impl_last h W; rw [HK.out] at kl
          go_enter Tryz.func70, Tryz.ntmps70
          go_wp2_with fail
          refine (kh _).mono ?_
          rintro e w1 ⟨rfl, rfl⟩
          go_wp2_with fail
          refine (kt _).mono ?_
          rintro e w1 ⟨rfl, rfl⟩
          go_wp2_with fail
          go_quiet ((go_at_call 94; refine Calls.quiet_of_same (kl _) <;> decide))
          go_wp2
          go_ret
          exact ⟨by first | rfl | (simp; omega), by first | exact (Below.refl _ _).alloc (Nat.le_refl _) _ | exact below_drewN ((Below.refl _ _).alloc (Nat.le_refl _) _) _⟩
      · rw [ok_no HK.out (.inr (.inl gt))]
        have Gt : Hid (¬ (0 ≤ t ∧ t ≤ 1000000)) := gt
        clear gt
        have kh := fun W => impl_isH h W; rw [in_yes Gh.out] at kh
        have kt := fun W => impl_isT t W; rw [in_no Gt.out] at kt
        have kl := fun W => impl_last h W; rw [HK.out] at kl
        go_enter Tryz.func70, Tryz.ntmps70
        go_wp2_with fail
        refine (kh _).mono ?_
        rintro e w1 ⟨rfl, rfl⟩
        go_wp2_with fail
        refine (kt _).mono ?_
        rintro e w1 ⟨rfl, rfl⟩
        go_wp2
        go_ret
        exact ⟨by first | rfl | (simp; omega), by first | exact (Below.refl _ _).alloc (Nat.le_refl _) _ | exact below_drewN ((Below.refl _ _).alloc (Nat.le_refl _) _) _⟩
    · rw [ok_no HK.out (.inl gh)]
      have Gh : Hid (¬ (1 ≤ h ∧ h ≤ 1000000)) := gh
      clear gh
      have kh := fun W => impl_isH h W; rw [in_no Gh.out] at kh
      have kl := fun W => impl_last h W; rw [HK.out] at kl
      go_enter Tryz.func70, Tryz.ntmps70
      go_wp2_with fail
      refine (kh _).mono ?_
      rintro e w1 ⟨rfl, rfl⟩
      go_wp2
      go_ret
      exact ⟨by first | rfl | (simp; omega), by first | exact (Below.refl _ _).alloc (Nat.le_refl _) _ | exact below_drewN ((Below.refl _ _).alloc (Nat.le_refl _) _) _⟩
end Go.Proofs.YtajfmjgaaapjeaaGreatDoor
