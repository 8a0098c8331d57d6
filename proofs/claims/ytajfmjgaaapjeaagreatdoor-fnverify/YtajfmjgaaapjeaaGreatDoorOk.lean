/- What the two ValsOk answer; old memory stays. Conditions: none of ours. -/
import Derived.Test.YtajfmjgaaapjeaaGreatDoorVl
namespace Go.Proofs.YtajfmjgaaapjeaaGreatDoor
open Go.RowKit
open Num
set_option linter.unusedVariables false
set_option maxHeartbeats 800000 in
set_option maxRecDepth 100000 in
theorem spec_okV (a : Option Addr) (l : List V) (cap : Nat) (w : World) (hl : VO w a l) (hlen : l.length ≤ 9223372036854775807) :
    Calls Tryz.prog 47 #[.slice a l.length cap] w fun e w' => e = .returned (.bool (vOk l)) ∧ Below w.heap.size w w' := by
  rcases hI : inIs (l.length : Int) 1 7 with _ | _
  · have HE : Hid (vOk l = false) := vOk_short (by simp [inIs] at hI; omega)
    go_enter Tryz.func47, Tryz.ntmps47
    go_wp2_with fail
    refine (spec_in _ _ _ _).mono ?_
    rintro e w1 ⟨rfl, rfl⟩
    rw [hI]
    go_wp2
    go_ret
    exact ⟨by rw [HE.out]; rfl, Below.refl _ _⟩
  · have h17 : 1 ≤ l.length ∧ l.length ≤ 7 := by simp [inIs] at hI; omega
    rcases hl with hl | ⟨b, o, rfl, hv⟩
    · omega
    have HV : Hid (VAt w b o l) := hv
    clear hv
    go_enter Tryz.func47, Tryz.ntmps47
    go_wp2_with fail
    refine (spec_in _ _ _ _).mono ?_
    rintro e w1 ⟨rfl, rfl⟩
    rw [hI]
    clear hI
    go_wp2
    go_loopw [3] (fun iv wr => ∃ k : Nat, k ≤ l.length ∧ iv = .int .i64 k ∧ Hid (∀ j, j < k → stepOk l j = true) ∧ Below w1.heap.size w1 wr) (fun iv _ => l.length - (intOf iv).toNat)
    case atStart => exact ⟨0, Nat.zero_le _, rfl, fun j hj => by omega, Below.refl _ _⟩
    case round =>
      obtain ⟨k, hk, rfl, HA, hb⟩ := hrel
      by_cases hlt : k < l.length
      · have hltz : (k : Int) < (l.length : Int) := by omega
        have hne := bel_some wr
        have hv := HV.out.below hb
        obtain ⟨v, hvE⟩ : ∃ v, l[k] = v := ⟨_, rfl⟩
        have c1 := fun p : Bel wr => p.cell (hv k hlt).1
        have c2 := fun p : Bel wr => p.cell (hv k hlt).2
        rw [hvE] at c1 c2
        have HG : Hid (goodV v = (inIs v.i 1 99 && inIs v.p 1 1000)) := by show _ = _; simp [goodV, inIs, Bool.and_assoc]
        have HS : Hid (stepOk l k = (goodV v && (decide (k = 0) || decide ((l.getD (k - 1) nobody).i < v.i)))) := by show _ = _; unfold stepOk; rw [getD_at hlt, hvE]
        rcases h1 : inIs v.i 1 99 with _ | _
        · have HF : Hid (vOk l = false) := vOk_bad hlt (by rw [HS.out, HG.out, h1]; rfl)
          clear hvE hv HS HG
          generalize v.i = vi at *
          generalize v.p = vp at *
          go_wp2_with fail
          refine wp_region_below (by kernel_rfl) (by kernel_rfl) ?_
          repeat (go_big_quiet_step ((go_at_call 79; exact bel_of_same (spec_in _ _ _ _))))
          refine wpQuiet_nil ?_
          intro _ hw'
          obtain ⟨pq, hw''⟩ := hw'
          subst hw''
          go_wp2
          go_ret
          exact ⟨by rw [HF.out]; rfl, hb.trans (pq.h.mono hb.size)⟩
        · skip
          rcases h2 : inIs v.p 1 1000 with _ | _
          · have HF : Hid (vOk l = false) := vOk_bad hlt (by rw [HS.out, HG.out, h1, h2]; rfl)
            clear hvE hv HS HG
            generalize v.i = vi at *
            generalize v.p = vp at *
            go_wp2_with fail
            refine wp_region_below (by kernel_rfl) (by kernel_rfl) ?_
            repeat (go_big_quiet_step ((go_at_call 79; exact bel_of_same (spec_in _ _ _ _))))
            refine wpQuiet_nil ?_
            intro _ hw'
            obtain ⟨pq, hw''⟩ := hw'
            subst hw''
            go_wp2
            go_ret
            exact ⟨by rw [HF.out]; rfl, hb.trans (pq.h.mono hb.size)⟩
          · rcases Nat.eq_zero_or_pos k with hz | hz
            · have HN : Hid (stepOk l k = true) := by show _ = _; rw [HS.out, HG.out, h1, h2, hz]; rfl
              have hkz : decide (0 < k) = false := by simp; omega
              have HZ : Hid (k = 0) := hz
              clear hvE hv HS HG hz
              generalize v.i = vi at *
              generalize v.p = vp at *
              go_wp2_with fail
              refine wp_region_below (by kernel_rfl) (by kernel_rfl) ?_
              repeat (go_big_quiet_step ((go_at_call 79; exact bel_of_same (spec_in _ _ _ _))))
              refine wpQuiet_nil ?_
              intro _ hw'
              obtain ⟨pq, hw''⟩ := hw'
              subst hw''
              go_wp2
              go_roundw
              case rel => exact ⟨k + 1, by omega, by go_num, fun j hj => by rw [show j = k from by have := HZ.out; omega]; exact HN.out, hb.trans (pq.h.mono hb.size)⟩
              case measure => simp [intOf]; omega
            · obtain ⟨j, rfl⟩ : ∃ j, k = j + 1 := ⟨k - 1, by omega⟩
              have hj : j < l.length := by omega
              obtain ⟨u, hu⟩ : ∃ u, l[j].i = u := ⟨_, rfl⟩
              have c3 := fun p : Bel wr => p.cell (hv j hj).1
              rw [hu] at c3
              have hjz : (0 : Int) < (j : Int) + 1 := by omega
              have hjl : (j : Int) < (l.length : Int) := by omega
              have HS' : Hid (stepOk l (j + 1) = decide (u < v.i)) := by
                show _ = _
                rw [HS.out, HG.out, h1, h2, Nat.add_sub_cancel, getD_at hj, hu]; simp
              by_cases hlt' : u < v.i
              · have HN : Hid (stepOk l (j + 1) = true) := by show _ = _; rw [HS'.out]; simpa using hlt'
                clear hvE hv hu HS HS' HG
                generalize v.i = vi at *
                generalize v.p = vp at *
                go_wp2_with fail
                refine wp_region_below (by kernel_rfl) (by kernel_rfl) ?_
                repeat (go_big_quiet_step ((go_at_call 79; exact bel_of_same (spec_in _ _ _ _))))
                refine wpQuiet_nil ?_
                intro _ hw'
                obtain ⟨pq, hw''⟩ := hw'
                subst hw''
                go_wp2
                go_roundw
                case rel => exact ⟨j + 2, by omega, by go_num, fun q hq => by
                  by_cases e : q = j + 1
                  · rw [e]; exact HN.out
                  · exact HA.out q (by omega), hb.trans (pq.h.mono hb.size)⟩
                case measure => simp [intOf]; omega
              · have HF : Hid (vOk l = false) := vOk_bad hlt (by rw [HS'.out]; simpa using hlt')
                clear hvE hv hu HS HS' HG
                generalize v.i = vi at *
                generalize v.p = vp at *
                go_wp2_with fail
                refine wp_region_below (by kernel_rfl) (by kernel_rfl) ?_
                repeat (go_big_quiet_step ((go_at_call 79; exact bel_of_same (spec_in _ _ _ _))))
                refine wpQuiet_nil ?_
                intro _ hw'
                obtain ⟨pq, hw''⟩ := hw'
                subst hw''
                go_wp2
                go_ret
                exact ⟨by rw [HF.out]; rfl, hb.trans (pq.h.mono hb.size)⟩
      · have hltz : ¬ (k : Int) < (l.length : Int) := by omega
        have HF : Hid (vOk l = true) := vOk_all h17.1 h17.2 (fun j hj => HA.out j (by omega))
        go_wp2
        go_ret
        exact ⟨by rw [HF.out]; rfl, hb⟩
set_option maxHeartbeats 800000 in
set_option maxRecDepth 100000 in
theorem impl_okV (a : Option Addr) (l : List V) (cap : Nat) (w : World) (hl : VO w a l) (hlen : l.length ≤ 9223372036854775807) :
    Calls Tryz.prog 97 #[.slice a l.length cap] w fun e w' => e = .returned (.bool (vOk l)) ∧ Below w.heap.size w w' := by
  by_cases hs1 : (l.length : Int) < 1
  · have HE : Hid (vOk l = false) := vOk_short (by omega)
    go_enter Tryz.func97, Tryz.ntmps97
    go_wp2
    go_ret
    exact ⟨by rw [HE.out]; rfl, Below.refl _ _⟩
  by_cases hs7 : (7 : Int) < (l.length : Int)
  · have HE : Hid (vOk l = false) := vOk_short (by omega)
    go_enter Tryz.func97, Tryz.ntmps97
    go_wp2
    go_ret
    exact ⟨by rw [HE.out]; rfl, Below.refl _ _⟩
  have h17 : 1 ≤ l.length ∧ l.length ≤ 7 := by omega
  rcases hl with hl | ⟨b, o, rfl, hv⟩
  · omega
  have HV : Hid (VAt w b o l) := hv
  clear hv
  go_enter Tryz.func97, Tryz.ntmps97
  go_wp2
  go_loopw [15] (fun iv wr => ∃ k : Nat, k ≤ l.length ∧ iv = .int .i64 k ∧ Hid (∀ j, j < k → stepOk l j = true) ∧ Below w.heap.size w wr) (fun iv _ => l.length - (intOf iv).toNat)
  case atStart => exact ⟨0, Nat.zero_le _, rfl, fun j hj => by omega, Below.refl _ _⟩
  case round =>
    obtain ⟨k, hk, rfl, HA, hb⟩ := hrel
    by_cases hlt : k < l.length
    · have hltz : (k : Int) < (l.length : Int) := by omega
      have hv := HV.out.below hb
      obtain ⟨v, hvE⟩ : ∃ v, l[k] = v := ⟨_, rfl⟩
      have c1 := (hv k hlt).1
      have c2 := (hv k hlt).2
      have hbl : b < wr.heap.size := World.block_lt_of_cell? wr _ c1
      rw [hvE] at c1 c2
      have HG : Hid (goodV v = (inIs v.i 1 99 && inIs v.p 1 1000)) := by show _ = _; simp [goodV, inIs, Bool.and_assoc]
      have HS : Hid (stepOk l k = (goodV v && (decide (k = 0) || decide ((l.getD (k - 1) nobody).i < v.i)))) := by show _ = _; unfold stepOk; rw [getD_at hlt, hvE]
      go_wp2_with fail
      refine (impl_isId _ _).mono ?_
      rintro e w1 ⟨rfl, rfl⟩
      rcases h1 : inIs v.i 1 99 with _ | _
      · have HF : Hid (vOk l = false) := vOk_bad hlt (by rw [HS.out, HG.out, h1]; rfl)
        clear h1
        go_wp2
        go_ret
        exact ⟨by rw [HF.out]; rfl, hb.alloc hb.size _⟩
      by_cases hp1 : v.p < 1
      · have HF : Hid (vOk l = false) := vOk_bad hlt (by rw [HS.out, HG.out]; simp [inIs]; omega)
        go_wp2
        go_ret
        exact ⟨by rw [HF.out]; rfl, hb.alloc hb.size _⟩
      by_cases hp2 : 1000 < v.p
      · have HF : Hid (vOk l = false) := vOk_bad hlt (by rw [HS.out, HG.out]; simp [inIs]; omega)
        go_wp2
        go_ret
        exact ⟨by rw [HF.out]; rfl, hb.alloc hb.size _⟩
      have HG1 : Hid (goodV v = true) := by show _ = _; rw [HG.out, h1]; simp [inIs]; omega
      go_wp2_with fail
      have d1 : (wr.alloc (Obj.cells #[Value.int IntKind.i64 v.i, Value.int IntKind.i64 v.p] 88)).cell? ⟨wr.heap.size, 0, none⟩ = some (.int .i64 v.i) := by simp
      have hb1 : Below w.heap.size w (wr.alloc (Obj.cells #[Value.int IntKind.i64 v.i, Value.int IntKind.i64 v.p] 88)) := hb.alloc hb.size _
      have hv1 := HV.out.below hb1
      generalize wr.alloc (Obj.cells #[Value.int IntKind.i64 v.i, Value.int IntKind.i64 v.p] 88) = wn at *
      have hne := bel_some wn
      have e1 := fun p : Bel wn => p.cell d1
      rcases Nat.eq_zero_or_pos k with hz | hz
      · have HN : Hid (stepOk l k = true) := by show _ = _; rw [HS.out, HG1.out, hz]; rfl
        have hkz : decide (0 < k) = false := by simp; omega
        have HZ : Hid (k = 0) := hz
        clear hvE hv HS HG hz
        refine wp_region_below (by kernel_rfl) (by kernel_rfl) ?_
        repeat (go_big_quiet_step (fail))
        refine wpQuiet_nil ?_
        intro _ hw'
        obtain ⟨pq, hw''⟩ := hw'
        subst hw''
        go_wp2
        go_roundw
        case rel => exact ⟨k + 1, by omega, by go_num, fun j hj => by rw [show j = k from by have := HZ.out; omega]; exact HN.out, hb1.trans (pq.h.mono hb1.size)⟩
        case measure => simp [intOf]; omega
      · obtain ⟨j, rfl⟩ : ∃ j, k = j + 1 := ⟨k - 1, by omega⟩
        have hj : j < l.length := by omega
        obtain ⟨u, hu⟩ : ∃ u, l[j].i = u := ⟨_, rfl⟩
        have c3 := fun p : Bel wn => p.cell (hv1 j hj).1
        rw [hu] at c3
        have hjz : (0 : Int) < (j : Int) + 1 := by omega
        have hjl : (j : Int) < (l.length : Int) := by omega
        have HS' : Hid (stepOk l (j + 1) = decide (u < v.i)) := by
          show _ = _
          rw [HS.out, HG1.out, Nat.add_sub_cancel, getD_at hj, hu]; simp
        by_cases hlt' : u < v.i
        · have HN : Hid (stepOk l (j + 1) = true) := by show _ = _; rw [HS'.out]; simpa using hlt'
          clear hvE hv hu HS HS' HG
          refine wp_region_below (by kernel_rfl) (by kernel_rfl) ?_
          repeat (go_big_quiet_step (fail))
          refine wpQuiet_nil ?_
          intro _ hw'
          obtain ⟨pq, hw''⟩ := hw'
          subst hw''
          go_wp2
          go_roundw
          case rel => exact ⟨j + 2, by omega, by go_num, fun q hq => by
            by_cases e : q = j + 1
            · rw [e]; exact HN.out
            · exact HA.out q (by omega), hb1.trans (pq.h.mono hb1.size)⟩
          case measure => simp [intOf]; omega
        · have HF : Hid (vOk l = false) := vOk_bad hlt (by rw [HS'.out]; simpa using hlt')
          clear hvE hv hu HS HS' HG
          refine wp_region_below (by kernel_rfl) (by kernel_rfl) ?_
          repeat (go_big_quiet_step (fail))
          refine wpQuiet_nil ?_
          intro _ hw'
          obtain ⟨pq, hw''⟩ := hw'
          subst hw''
          go_wp2
          go_ret
          exact ⟨by rw [HF.out]; rfl, hb1.trans (pq.h.mono hb1.size)⟩
    · have hltz : ¬ (k : Int) < (l.length : Int) := by omega
      have HF : Hid (vOk l = true) := vOk_all h17.1 h17.2 (fun j hj => HA.out j (by omega))
      go_wp2
      go_ret
      exact ⟨by rw [HF.out]; rfl, hb⟩
end Go.Proofs.YtajfmjgaaapjeaaGreatDoor
